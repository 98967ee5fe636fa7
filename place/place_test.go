package place

import (
	"math"
	"slices"
	"testing"

	"octavo/api"
)

func of(l ...api.Run) []api.Run { return l }

// run is Many stamps by R from T on.
func run(t uint32, r uint8, many int) api.Run {
	return api.Run{T: t, R: r, Many: many}
}

// mayBe is what a place that may be is, by the chapter's words.
func mayBe(p []api.Run) bool {
	all := 0
	for i, r := range p {
		if r.R > 7 || r.T < 1 || r.Many < 1 || r.Many > 4096 || last(r) > 1<<30 {
			return false
		}
		if i > 0 && (int(r.T) <= last(p[i-1]) || r.R == p[i-1].R && int(r.T) <= last(p[i-1])+1) {
			return false
		}
		all += r.Many
	}
	return 1 <= len(p) && len(p) <= 64 && all <= 4096
}

// last is a run's last time; an int has room for it, if Many is not too great.
func last(r api.Run) int {
	return int(r.T) + r.Many - 1
}

// isOne is what Compare and Begins take: the beginning, or a place that may be.
func isOne(p []api.Run) bool {
	return len(p) == 0 || mayBe(p)
}

// stamps is those of a place that is one, one by one.
func stamps(p []api.Run) []api.Id {
	var l []api.Id
	for _, r := range p {
		for t := int(r.T); t <= last(r); t++ {
			l = append(l, api.Id{T: uint32(t), R: r.R})
		}
	}
	return l
}

// written is the runs of stamps whose times rise, as few as can be.
func written(l []api.Id) []api.Run {
	var p []api.Run
	for i, a := range l {
		if i > 0 && a == (api.Id{T: l[i-1].T + 1, R: l[i-1].R}) {
			p[len(p)-1].Many++
		} else {
			p = append(p, run(a.T, a.R, 1))
		}
	}
	return p
}

// compared is how stamps are held against each other: below 0, if those of a are ahead.
func compared(a, b []api.Id) int {
	for i := 0; i < len(a) && i < len(b); i++ {
		if a[i] == b[i] {
			continue
		}
		if a[i].T > b[i].T || a[i].T == b[i].T && a[i].R > b[i].R {
			return -1
		}
		return 1
	}
	switch {
	case len(a) < len(b):
		return -1
	case len(a) > len(b):
		return 1
	}
	return 0
}

// compareInWords is what Compare has to answer.
func compareInWords(a, b []api.Run) int {
	if !isOne(a) || !isOne(b) {
		return 0
	}
	return compared(stamps(a), stamps(b))
}

// beginsInWords is what Begins has to answer.
func beginsInWords(a, b []api.Run) bool {
	if !isOne(a) || !isOne(b) {
		return false
	}
	x, y := stamps(a), stamps(b)
	return len(x) <= len(y) && slices.Equal(x, y[:len(x)])
}

// underInWords is what Under has to answer.
func underInWords(p []api.Run, id api.Id) ([]api.Run, api.Errno) {
	if !isOne(p) || id.T < 1 || id.T > 1<<30 || id.R > 7 {
		return nil, api.ErrBad
	}
	l := stamps(p)
	for _, a := range l {
		if id.T <= a.T {
			return nil, api.ErrArg
		}
	}
	l = append(l, id)
	if child := written(l); len(child) <= 64 && len(l) <= 4096 {
		return child, api.OK
	}
	return nil, api.ErrDeep
}

// small is all places of the times 1 to 4, by three replicas, the beginning with them.
func small() [][]api.Run {
	all := [][]api.Id{nil}
	for t := range 4 {
		for _, l := range all {
			for r := range 3 {
				all = append(all, append(slices.Clip(l), api.Id{T: uint32(t + 1), R: uint8(r)}))
			}
		}
	}
	out := make([][]api.Run, len(all))
	for i, l := range all {
		out[i] = written(l)
	}
	return out
}

// some is so many runs that are made up, a place, always the same one for one seed.
func some(seed, runs int) []api.Run {
	var p []api.Run
	at := 0
	for range runs {
		seed = (seed*1103515245 + 12345) % (1 << 31)
		r := run(uint32(at+2+seed>>8%3), uint8(seed>>11%8), 1+seed>>14%60)
		p = append(p, r)
		at = last(r)
	}
	return p
}

// alone is so many runs of one stamp, by two replicas in turn.
func alone(many int) []api.Run {
	var p []api.Run
	for i := range many {
		p = append(p, run(uint32(i+1), uint8(i%2), 1))
	}
	return p
}

// good is places of the edges, all of which may be.
func good() [][]api.Run {
	l := [][]api.Run{
		of(run(1, 0, 1)), of(run(1, 7, 1)), of(run(1, 0, 2)), of(run(1, 0, 4095)), of(run(1, 0, 4096)), of(run(1, 7, 4096)), of(run(2, 0, 4095)),
		of(run(1<<30, 0, 1)), of(run(1<<30, 7, 1)), of(run(1<<30-1, 3, 1)), of(run(1<<30-1, 3, 2)), of(run(1<<30-4095, 3, 4096)), of(run(1<<30-4095, 3, 4095)), of(run(1<<30-4095, 3, 4095), run(1<<30, 4, 1)),
		of(run(1, 0, 2), run(3, 1, 1)), of(run(1, 0, 2), run(4, 0, 1)), of(run(1, 0, 2), run(3, 7, 1), run(4, 0, 1)), of(run(1, 1, 1), run(1<<30, 1, 1)), of(run(1, 1, 1), run(1<<30, 0, 1)),
		of(run(1, 0, 2048), run(2050, 0, 2048)), of(run(1, 0, 2048), run(2049, 1, 2048)), of(run(1, 0, 1), run(3, 0, 4095)), of(run(1, 0, 4095), run(4096, 3, 1)), of(run(1, 0, 4094), run(4095, 3, 1)),
		of(run(255, 0, 2), run(258, 0, 300)), of(run(65535, 0, 2), run(65538, 0, 1)), of(run(1<<24, 0, 2), run(1<<24+3, 0, 1)), of(run(1<<29, 0, 4000)),
		alone(63), alone(64), append(alone(63), run(64, 1, 4033)), append(alone(63), run(64, 1, 4032)), append(of(run(1, 0, 4033)), behind(alone(63), 4034)...),
	}
	for n := range 32 {
		l = append(l, some(n, 1+n*2))
	}
	return l
}

// behind is a place's runs, so much later.
func behind(p []api.Run, by uint32) []api.Run {
	p = slices.Clone(p)
	for i := range p {
		p[i].T += by
	}
	return p
}

// badRuns is runs that may stand in no place, each for one reason.
func badRuns() []api.Run {
	return []api.Run{
		{}, run(0, 0, 1), run(0, 3, 2), run(5000, 0, 0), run(5000, 0, -1), run(5000, 0, -4096), run(5000, 0, math.MinInt), run(5000, 0, 4097), run(5000, 0, 1<<16), run(5000, 0, 1<<31), run(5000, 0, 1<<32), run(5000, 0, 1<<32+1), run(5000, 0, 1<<40+1), run(5000, 0, math.MaxInt),
		run(5000, 8, 1), run(5000, 9, 1), run(5000, 16, 1), run(5000, 128, 1), run(5000, 255, 1),
		run(1<<30+1, 0, 1), run(1<<30, 0, 2), run(1<<30-1, 0, 3), run(1<<30-4094, 0, 4096), run(1<<31, 0, 1), run(1<<31+1, 0, 1), run(math.MaxUint32, 0, 1), run(math.MaxUint32, 0, 2), run(math.MaxUint32, 0, 3), run(math.MaxUint32-1, 0, 4096), run(math.MaxUint32, 0, 4096),
	}
}

// bad is lists that are neither the beginning nor a place that may be.
func bad() [][]api.Run {
	l := [][]api.Run{
		of(run(1, 0, 2), run(3, 0, 1)), of(run(1, 0, 2), run(2, 1, 1)), of(run(1, 0, 2), run(1, 1, 1)), of(run(1, 0, 2), run(2, 0, 1)), of(run(1, 0, 2), run(1, 0, 2)), of(run(5, 0, 2), run(3, 1, 1)), of(run(5, 0, 1), run(1, 0, 1)), of(run(1<<30, 0, 1), run(1<<30, 1, 1)), of(run(1, 0, 1), run(2, 1, 1), run(3, 1, 1)),
		of(run(1, 0, 4096), run(4098, 0, 1)), of(run(1, 0, 1), run(2, 1, 4096)), of(run(1, 0, 2048), run(2049, 1, 2049)), append(alone(63), run(64, 1, 4034)), append(of(run(1, 0, 4034)), behind(alone(63), 4035)...),
		alone(65), alone(66), alone(128), alone(1024), alone(1 << 16), append(alone(64), run(66, 0, 4033)), make([]api.Run, 64), make([]api.Run, 65), slices.Repeat(of(run(1, 0, 4096)), 64), slices.Repeat(of(run(1, 0, 4096)), 1<<16),
	}
	for _, r := range badRuns() {
		l = append(l, of(r), of(run(1, 1, 3), r), of(r, run(6000, 1, 1)), of(run(1, 1, 3), r, run(1<<30, 1, 1)))
	}
	return l
}

// all is lists of all kinds: the beginning, places that may be, and what may not.
func all() [][]api.Run {
	return slices.Concat([][]api.Run{nil, {}}, good(), bad())
}

// ids is stamps of the edges, of which some may not be.
func ids() []api.Id {
	var l []api.Id
	for _, t := range []uint32{0, 1, 2, 3, 4, 5, 6, 63, 64, 65, 66, 255, 256, 257, 4095, 4096, 4097, 4098, 1 << 24, 1<<30 - 1, 1 << 30, 1<<30 + 1, 1 << 31, math.MaxUint32} {
		for _, r := range []uint8{0, 1, 2, 7, 8, 255} {
			l = append(l, api.Id{T: t, R: r})
		}
	}
	return l
}

// brief is a list that is short enough to be told.
func brief(p []api.Run) []api.Run {
	return p[:min(len(p), 6)]
}

func checks(t *testing.T, p []api.Run) {
	t.Helper()
	want := api.ErrBad
	if mayBe(p) {
		want = api.OK
	}
	if e := Check(p); e != want {
		t.Fatalf("Check of %d runs, %v: %d; want %d", len(p), brief(p), e, want)
	}
}

func holds(t *testing.T, a, b []api.Run) {
	t.Helper()
	if n, want := Compare(a, b), compareInWords(a, b); n != want {
		t.Fatalf("Compare of %d runs, %v, and %d, %v: %d; want %d", len(a), brief(a), len(b), brief(b), n, want)
	}
	if is, want := Begins(a, b), beginsInWords(a, b); is != want {
		t.Fatalf("Begins of %d runs, %v, and %d, %v: %t; want %t", len(a), brief(a), len(b), brief(b), is, want)
	}
}

func under(t *testing.T, p []api.Run, id api.Id) {
	t.Helper()
	want, refusal := underInWords(p, id)
	child, e := Under(p, id)
	if e != refusal || !slices.Equal(child, want) {
		t.Fatalf("Under(%d runs, %v, and %v): %d runs, %v, %d; want %d, %v, %d", len(p), brief(p), id, len(child), brief(child), e, len(want), brief(want), refusal)
	}
}

func tells(t *testing.T, p []api.Run) {
	t.Helper()
	var want []api.Id
	var end api.Id
	refusal := api.ErrBad
	if mayBe(p) {
		want, refusal = stamps(p), api.OK
		end = want[len(want)-1]
	}
	if l, e := Ids(p); e != refusal || !slices.Equal(l, want) {
		t.Fatalf("Ids of %d runs, %v: %d stamps, %d; want %d, %d", len(p), brief(p), len(l), e, len(want), refusal)
	}
	if a := Last(p); a != end {
		t.Fatalf("Last of %d runs, %v: %v; want %v", len(p), brief(p), a, end)
	}
}

// P6.1, Check: the edges that the chapter names, one by one.
func TestCheckTellsKnown(t *testing.T) {
	for _, c := range []struct {
		what string
		p    []api.Run
		want api.Errno
	}{
		{"nil", nil, api.ErrBad}, {"no runs", of(), api.ErrBad}, {"64 runs", alone(64), api.OK}, {"65 runs", alone(65), api.ErrBad},
		{"Many of 0", of(run(5, 0, 0)), api.ErrBad}, {"of 1", of(run(5, 0, 1)), api.OK}, {"below 0", of(run(5, 0, -1)), api.ErrBad}, {"of 4096", of(run(1, 0, 4096)), api.OK}, {"of 4097", of(run(1, 0, 4097)), api.ErrBad},
		{"least Many", of(run(5, 0, math.MinInt)), api.ErrBad}, {"greatest Many", of(run(5, 0, math.MaxInt)), api.ErrBad},
		{"R of 7", of(run(1, 7, 1)), api.OK}, {"of 8", of(run(1, 8, 1)), api.ErrBad},
		{"T of 0", of(run(0, 0, 1)), api.ErrBad}, {"of 1", of(run(1, 0, 1)), api.OK},
		{"MaxTime last", of(run(1<<30-9, 0, 10)), api.OK}, {"one more", of(run(1<<30-9, 0, 11)), api.ErrBad}, {"one more at first", of(run(1<<30+1, 0, 1)), api.ErrBad},
		{"one replica, one apart", of(run(1, 0, 2), run(3, 0, 1)), api.ErrBad}, {"two apart", of(run(1, 0, 2), run(4, 0, 1)), api.OK}, {"two replicas, one apart", of(run(1, 0, 2), run(3, 1, 1)), api.OK}, {"none apart", of(run(1, 0, 2), run(2, 1, 1)), api.ErrBad},
		{"back", of(run(5, 0, 1), run(1, 1, 1)), api.ErrBad},
		{"4096 stamps", of(run(1, 0, 2048), run(2049, 1, 2048)), api.OK}, {"4097 stamps", of(run(1, 0, 2048), run(2049, 1, 2049)), api.ErrBad},
		{"a zero run", of(api.Run{}), api.ErrBad}, {"one behind a run", of(run(1, 0, 2), api.Run{}), api.ErrBad},
	} {
		if e := Check(c.p); e != c.want {
			t.Errorf("Check of %s: %d; want %d", c.what, e, c.want)
		}
	}
}

// P6.1, Check: each run of the edges, alone, and any two of them.
func TestCheckTellsOneAndTwo(t *testing.T) {
	var runs []api.Run
	for _, many := range []int{math.MinInt, -1, 0, 1, 2, 3, 4095, 4096, 4097, 1<<32 + 1, math.MaxInt} {
		for _, at := range []uint32{0, 1, 2, 3, 4, 5, 4096, 4097, 4098, 1<<30 - 4095, 1<<30 - 4094, 1<<30 - 1, 1 << 30, 1<<30 + 1, 1 << 31, math.MaxUint32} {
			for _, r := range []uint8{0, 1, 7, 8, 255} {
				runs = append(runs, run(at, r, many))
			}
		}
	}
	for _, a := range runs {
		checks(t, of(a))
		for _, b := range runs {
			checks(t, of(a, b))
		}
	}
}

// P6.1, Check: what is wrong is found wherever it stands, and so many runs and stamps are counted.
func TestCheckFindsBad(t *testing.T) {
	for at := range 64 {
		p := alone(64)
		for _, r := range badRuns() {
			was := p[at]
			p[at] = r
			checks(t, p)
			p[at] = was
		}
		for _, turn := range []uint32{0, 1, 2, 3, math.MaxUint32} {
			late := slices.Concat(p[:at], behind(p[at:], turn))
			checks(t, late)
			for _, r := range []uint8{0, 1, 7, 8} {
				late[at].R = r
				checks(t, late)
			}
		}
		for many := range 4 {
			long := slices.Concat(p[:at], of(run(p[at].T, p[at].R, 4032+many)), behind(p[at+1:], 5000))
			checks(t, long)
			checks(t, long[:at+1])
		}
	}
	for many := range 200 {
		checks(t, alone(many))
		checks(t, some(many, many))
	}
}

// P6.1, Check: all lists of the edges.
func TestCheckTellsAll(t *testing.T) {
	for _, p := range good() {
		if !mayBe(p) || Check(p) != api.OK {
			t.Errorf("Check of %d runs, %v: %d", len(p), brief(p), Check(p))
		}
	}
	for _, p := range bad() {
		if mayBe(p) || Check(p) != api.ErrBad {
			t.Errorf("Check of %d runs, %v: %d", len(p), brief(p), Check(p))
		}
	}
}

// P6.1, Same and Twin: of any ones, such as may not be too.
func TestSameAndTwin(t *testing.T) {
	for i, a := range all() {
		for k, b := range all() {
			want := i == k || len(a)+len(b) == 0
			if Same(a, b) != want || Same(b, a) != want {
				t.Errorf("Same of %d runs, %v, and %d, %v: %t", len(a), brief(a), len(b), brief(b), !want)
			}
		}
		if b := Twin(a); !slices.Equal(a, b) || !Same(a, b) {
			t.Errorf("Twin of %d runs, %v: %d, %v", len(a), brief(a), len(b), brief(b))
		}
		for at := range min(len(a), 70) {
			for _, turn := range []api.Run{{T: 1}, {T: 1 << 31}, {R: 1}, {R: 128}, {Many: 1}, {Many: 1 << 40}} {
				b := slices.Clone(a)
				b[at].T += turn.T
				b[at].R += turn.R
				b[at].Many += turn.Many
				if Same(a, b) || Same(b, a) {
					t.Fatalf("Same of %d runs, %v, and with the one at %d turned by %v", len(a), brief(a), at, turn)
				}
			}
		}
		if len(a) > 0 && (Same(a, a[1:]) || Same(a[:len(a)-1], a)) {
			t.Errorf("Same of %d runs, %v, and one less", len(a), brief(a))
		}
	}
}

// P6.2, Compare: places that are known, both ways.
func TestCompareTellsKnown(t *testing.T) {
	for _, c := range []struct {
		what string
		a, b []api.Run
		want int
	}{
		{"a child", of(run(1, 0, 2)), of(run(1, 0, 3)), -1},
		{"a child by another one", of(run(1, 0, 2)), of(run(1, 0, 2), run(3, 1, 1)), -1},
		{"a later child", of(run(1, 0, 1), run(5, 0, 1)), of(run(1, 0, 1), run(4, 1, 1)), -1},
		{"a greater replica's", of(run(1, 0, 1), run(5, 0, 1)), of(run(1, 0, 1), run(5, 1, 1)), 1},
		{"the beginning", nil, of(run(1, 0, 1)), -1},
		{"the beginning, twice", nil, of(), 0},
		{"itself", of(run(1, 0, 2), run(3, 1, 1)), of(run(1, 0, 2), run(3, 1, 1)), 0},
		{"a cut run's end, a later one", of(run(1, 0, 5)), of(run(1, 0, 2), run(4, 0, 1)), 1},
		{"a cut run's end, an earlier one", of(run(1, 1, 5)), of(run(1, 1, 2), run(3, 0, 1)), -1},
		{"a cut run's end, one that is as old", of(run(1, 1, 5)), of(run(1, 1, 2), run(3, 2, 9)), 1},
		{"a cut run's end, much behind", of(run(1, 1, 4096)), of(run(1, 1, 4095), run(1<<30, 7, 1)), 1},
		{"the second run, cut", of(run(1, 1, 2), run(3, 2, 7)), of(run(1, 1, 2), run(3, 2, 3), run(7, 2, 1)), 1},
		{"another second run", of(run(1, 1, 2), run(3, 2, 7)), of(run(1, 1, 2), run(3, 3, 1)), 1},
		{"other first stamps", of(run(2, 0, 1)), of(run(1, 7, 4096)), -1},
		{"late ones", of(run(1<<30, 0, 1)), of(run(1<<30-1, 7, 2)), -1},
	} {
		if n, m := Compare(c.a, c.b), Compare(c.b, c.a); n != c.want || m != -c.want {
			t.Errorf("Compare with %s: %d, %d; want %d, %d", c.what, n, m, c.want, -c.want)
		}
	}
}

// P6.2, Begins: places that are known, both ways.
func TestBeginsTellsKnown(t *testing.T) {
	for _, c := range []struct {
		what         string
		a, b         []api.Run
		there, other bool
	}{
		{"a run more", of(run(1, 0, 2)), of(run(1, 0, 3), run(9, 1, 1)), true, false},
		{"a stamp less", of(run(1, 0, 2)), of(run(1, 0, 1)), false, true},
		{"itself", of(run(1, 0, 2), run(9, 1, 1)), of(run(1, 0, 2), run(9, 1, 1)), true, true},
		{"the beginning", nil, of(run(1, 0, 1)), true, false},
		{"the beginning, twice", of(), nil, true, true},
		{"a run that goes on", of(run(1, 0, 4095)), of(run(1, 0, 4096)), true, false},
		{"a run that is cut", of(run(1, 0, 5)), of(run(1, 0, 3), run(5, 0, 2)), false, false},
		{"a run that is cut, by another one", of(run(1, 0, 5)), of(run(1, 0, 3), run(4, 1, 1)), false, false},
		{"a run by another one", of(run(1, 0, 2)), of(run(1, 1, 3)), false, false},
		{"a later run", of(run(1, 0, 2)), of(run(2, 0, 3)), false, false},
		{"an end", of(run(2, 0, 1)), of(run(1, 0, 2)), false, false},
	} {
		if is, too := Begins(c.a, c.b), Begins(c.b, c.a); is != c.there || too != c.other {
			t.Errorf("Begins with %s: %t, %t; want %t, %t", c.what, is, too, c.there, c.other)
		}
	}
}

// P6.2: any two small places, and any two of the edges; the beginning with them.
func TestHoldsAnyTwo(t *testing.T) {
	for _, a := range small() {
		for _, b := range small() {
			holds(t, a, b)
		}
	}
	edges := append(good(), nil)
	for _, a := range edges {
		for _, b := range edges {
			holds(t, a, b)
		}
	}
}

// P6.2: two places part at each stamp there is, their runs cut there, or whole.
func TestHoldsWhereTheyPart(t *testing.T) {
	for _, p := range []([]api.Run){of(run(1, 3, 40)), some(5, 4), some(9, 12), alone(64), of(run(1<<30-59, 2, 20), run(1<<30-30, 3, 5), run(1<<30-22, 2, 20))} {
		l := stamps(p)
		for at := range len(l) + 1 {
			head := slices.Clip(l[:at])
			holds(t, written(head), p)
			holds(t, p, written(head))
			for r := range 8 {
				for _, gap := range []uint32{1, 2, 3, 100} {
					next := api.Id{T: gap, R: uint8(r)}
					if at > 0 {
						next.T += l[at-1].T
					}
					q := written(append(head, next))
					holds(t, p, q)
					holds(t, q, p)
					q = written(append(head, next, api.Id{T: next.T + 1, R: next.R}))
					holds(t, p, q)
					holds(t, q, p)
				}
			}
		}
	}
}

// P6.2: 0 and false, if one of them is neither the beginning nor may be.
func TestHoldsNothingBad(t *testing.T) {
	for _, a := range bad() {
		for _, b := range all() {
			if Compare(a, b) != 0 || Compare(b, a) != 0 || Begins(a, b) || Begins(b, a) {
				t.Fatalf("of %d runs, %v, and %d, %v: %d, %d, %t, %t", len(a), brief(a), len(b), brief(b), Compare(a, b), Compare(b, a), Begins(a, b), Begins(b, a))
			}
		}
		if Compare(a, a) != 0 || Begins(a, a) || Begins(nil, a) {
			t.Fatalf("%d runs, %v, begin something", len(a), brief(a))
		}
	}
}

// P6.3, Under: children that are known, and what is refused.
func TestUnderTellsKnown(t *testing.T) {
	for _, c := range []struct {
		what string
		p    []api.Run
		id   api.Id
		want []api.Run
		e    api.Errno
	}{
		{"a run that goes on", of(run(1, 0, 2)), api.Id{T: 3}, of(run(1, 0, 3)), api.OK},
		{"another replica", of(run(1, 0, 2)), api.Id{T: 3, R: 1}, of(run(1, 0, 2), run(3, 1, 1)), api.OK},
		{"a later time", of(run(1, 0, 2)), api.Id{T: 4}, of(run(1, 0, 2), run(4, 0, 1)), api.OK},
		{"the beginning", nil, api.Id{T: 7, R: 2}, of(run(7, 2, 1)), api.OK},
		{"the beginning, at the first time", of(), api.Id{T: 1}, of(run(1, 0, 1)), api.OK},
		{"the last time", of(run(1<<30-1, 3, 1)), api.Id{T: 1 << 30, R: 3}, of(run(1<<30-1, 3, 2)), api.OK},
		{"the same time", of(run(1, 0, 2)), api.Id{T: 2, R: 1}, nil, api.ErrArg},
		{"an earlier time", of(run(5, 0, 2)), api.Id{T: 1, R: 1}, nil, api.ErrArg},
		{"a time within a run", of(run(1, 0, 4096)), api.Id{T: 4095, R: 1}, nil, api.ErrArg},
		{"a time ahead of the last run", of(run(1, 0, 2), run(9, 0, 1)), api.Id{T: 3}, nil, api.ErrArg},
		{"nothing behind the last time", of(run(1<<30, 3, 1)), api.Id{T: 1 << 30, R: 4}, nil, api.ErrArg},
		{"a stamp behind the last time", of(run(1<<30, 3, 1)), api.Id{T: 1<<30 + 1, R: 3}, nil, api.ErrBad},
		{"a zero stamp", of(run(1, 0, 2)), api.Id{}, nil, api.ErrBad},
		{"a zero stamp, of the beginning", nil, api.Id{}, nil, api.ErrBad},
		{"a replica too great", nil, api.Id{T: 1, R: 8}, nil, api.ErrBad},
		{"a place that may not be", of(run(1, 0, 2), run(3, 0, 1)), api.Id{T: 9}, nil, api.ErrBad},
		{"4096 stamps", of(run(1, 0, 4095)), api.Id{T: 4096}, of(run(1, 0, 4096)), api.OK},
		{"one more", of(run(1, 0, 4096)), api.Id{T: 4097}, nil, api.ErrDeep},
		{"one more by another one", of(run(1, 0, 4096)), api.Id{T: 4097, R: 1}, nil, api.ErrDeep},
		{"64 runs", alone(63), api.Id{T: 64, R: 1}, alone(64), api.OK},
		{"one more run", alone(64), api.Id{T: 65}, nil, api.ErrDeep},
		{"64 runs, of which the last goes on", alone(64), api.Id{T: 65, R: 1}, append(alone(63), run(64, 1, 2)), api.OK},
	} {
		if child, e := Under(c.p, c.id); e != c.e || !slices.Equal(child, c.want) {
			t.Errorf("Under with %s: %v, %d; want %v, %d", c.what, brief(child), e, brief(c.want), c.e)
		}
	}
}

// P6.3, Under: all lists and stamps of the edges, and of small places all that may stand behind.
func TestUnderOfAll(t *testing.T) {
	for _, p := range all() {
		for _, id := range ids() {
			under(t, p, id)
		}
		if !mayBe(p) {
			continue
		}
		end := stamps(p)[len(stamps(p))-1]
		for r := range 10 {
			for _, by := range []uint32{0, 1, 2, 3, math.MaxUint32, 1 << 20} {
				under(t, p, api.Id{T: end.T + by, R: uint8(r)})
			}
		}
	}
	for _, p := range small() {
		for at := range 8 {
			for r := range 9 {
				under(t, p, api.Id{T: uint32(at), R: uint8(r)})
			}
		}
	}
}

// P6.3: a place grows, child by child, till it is too deep: what is too deep is told behind all that is wrong beside.
func TestUnderGrows(t *testing.T) {
	for _, turn := range []int{1, 2, 70, 300, 5000} {
		var p []api.Run
		many := 0
		for {
			id := api.Id{T: uint32(many + 1), R: uint8(many / turn % 8)}
			want, refusal := underInWords(p, id)
			child, e := Under(p, id)
			if e != refusal || !slices.Equal(child, want) {
				t.Fatalf("behind %d stamps by turns of %d: %d runs, %d; want %d, %d", many, turn, len(child), e, len(want), refusal)
			}
			if e != api.OK {
				break
			}
			if Last(child) != id || !Begins(p, child) || Compare(p, child) != -1 {
				t.Fatalf("behind %d stamps by turns of %d no child", many, turn)
			}
			p = child
			many++
		}
		if want := min(64*turn, 4096); many != want {
			t.Errorf("%d stamps by turns of %d; want %d", many, turn, want)
		}
		under(t, p, api.Id{T: uint32(many), R: 7})
		under(t, p, api.Id{T: uint32(many + 1), R: 8})
		under(t, p, api.Id{T: 1})
		under(t, p, api.Id{})
	}
}

// P6.3, Last and Ids: of all lists of the edges, and of all small places.
func TestLastAndIds(t *testing.T) {
	for _, p := range slices.Concat(all(), small()) {
		tells(t, p)
	}
	if a := Last(of(run(1, 0, 2), run(9, 1, 3))); a != (api.Id{T: 11, R: 1}) {
		t.Errorf("Last: %v; want 11 by 1", a)
	}
	want := []api.Id{{T: 1}, {T: 2}, {T: 9, R: 1}, {T: 10, R: 1}, {T: 11, R: 1}}
	if l, e := Ids(of(run(1, 0, 2), run(9, 1, 3))); e != api.OK || !slices.Equal(l, want) {
		t.Errorf("Ids: %v, %d; want %v", l, e, want)
	}
	if l, e := Ids(nil); e != api.ErrBad || len(l) != 0 {
		t.Errorf("Ids of the beginning: %v, %d; want ErrBad", l, e)
	}
}

// P6.3: stamps one under the other are the place that they are the stamps of.
func TestIdsUnderEachOther(t *testing.T) {
	for _, p := range slices.Concat(good(), small()[1:]) {
		l, _ := Ids(p)
		var q []api.Run
		for _, id := range l[:min(len(l), 300)] {
			q, _ = Under(q, id)
		}
		if len(l) <= 300 && !Same(p, q) || !Begins(q, p) {
			t.Fatalf("the stamps of %d runs, %v, one under the other: %d runs, %v", len(p), brief(p), len(q), brief(q))
		}
	}
}

// P6.5, V2: of two unlike places one is ahead, and of three what is ahead of one that is ahead is ahead.
func TestOrderOfTwoAndThree(t *testing.T) {
	l := append(small(), good()...)
	ahead := make([][]bool, len(l))
	for i, a := range l {
		ahead[i] = make([]bool, len(l))
		for k, b := range l {
			n := Compare(a, b)
			if n != -Compare(b, a) || (n == 0) != Same(a, b) || n < -1 || n > 1 {
				t.Fatalf("%v and %v: %d, %d", brief(a), brief(b), n, Compare(b, a))
			}
			ahead[i][k] = n < 0
		}
	}
	for i := range l {
		for k := range l {
			for m := range l {
				if ahead[i][k] && ahead[k][m] && !ahead[i][m] {
					t.Fatalf("%v is ahead of %v, which is ahead of %v, and it is not ahead", brief(l[i]), brief(l[k]), brief(l[m]))
				}
			}
		}
	}
}

// P6.5, V2: whatever order places come in, they are put in the same one.
func TestOneOrder(t *testing.T) {
	want := small()
	slices.SortFunc(want, func(a, b []api.Run) int { return compared(stamps(a), stamps(b)) })
	for _, step := range []int{1, 3, 5, 7, 13, 101, 127, 255} {
		var l [][]api.Run
		for i := range want {
			l = append(l, want[i*step%len(want)])
		}
		slices.SortFunc(l, Compare)
		if !slices.EqualFunc(l, want, Same) {
			t.Fatalf("places that came by steps of %d are in another order", step)
		}
	}
}

// P6.5: a child stands behind its parent, and ahead of all that are behind the parent, but for what stands under younger children.
func TestChildStandsBehindParent(t *testing.T) {
	l := small()
	for _, p := range l {
		for at := range 6 {
			for r := range 3 {
				id := api.Id{T: uint32(at), R: uint8(r)}
				child, e := Under(p, id)
				if e != api.OK {
					continue
				}
				if Compare(p, child) != -1 {
					t.Fatalf("%v is not ahead of its child %v", p, child)
				}
				for _, q := range l {
					if Compare(p, q) != -1 || Same(q, child) {
						continue
					}
					if (Compare(child, q) == -1) == underYounger(p, q, id) {
						t.Fatalf("%v, a child of %v's, and %v: %d", child, p, q, Compare(child, q))
					}
				}
			}
		}
	}
}

// underYounger tells whether a place stands under a child of p's that is younger than id, or is it.
func underYounger(p, q []api.Run, id api.Id) bool {
	x, y := stamps(p), stamps(q)
	if len(y) <= len(x) || !slices.Equal(x, y[:len(x)]) {
		return false
	}
	next := y[len(x)]
	return next.T > id.T || next.T == id.T && next.R > id.R
}

// within is a list with others around it in its memory, that may be written over.
func within(p []api.Run) (around, in []api.Run) {
	around = slices.Concat(of(run(3, 0, 1)), p, of(run(9, 9, 9), run(8, 8, 8)))
	return around, around[1 : 1+len(p)]
}

// P6.4: what is handed in is only read, what lies around it in its memory too, and tells nothing.
func TestOnlyReads(t *testing.T) {
	for _, p := range all() {
		around, a := within(p)
		was := slices.Clone(around)
		checks(t, a)
		tells(t, a)
		for _, id := range ids() {
			under(t, a, id)
		}
		for _, q := range good() {
			other, b := within(q)
			then := slices.Clone(other)
			holds(t, a, b)
			holds(t, b, a)
			Same(a, b)
			if !slices.Equal(other, then) {
				t.Fatalf("%d runs, %v, are turned", len(q), brief(q))
			}
		}
		holds(t, a, a)
		if !Same(a, p) || !slices.Equal(Twin(a), p) || !slices.Equal(around, was) {
			t.Fatalf("%d runs, %v, are turned", len(p), brief(p))
		}
	}
}

// spoil writes over all that a list has room for.
func spoil(p []api.Run) {
	p = p[:cap(p)]
	for i := range p {
		p[i] = run(77, 7, 77)
	}
}

// P6.4: a twin is new memory: what is handed in may be changed behind the call, and the answer by its caller.
func TestTwinIsNewMemory(t *testing.T) {
	for _, p := range all() {
		around, a := within(p)
		was := slices.Clone(around)
		one, two := Twin(a), Twin(a)
		spoil(one)
		if !slices.Equal(two, p) || !slices.Equal(around, was) {
			t.Fatalf("a twin of %d runs, %v, shares memory", len(p), brief(p))
		}
		spoil(around)
		if !slices.Equal(two, p) {
			t.Fatalf("a twin of %d runs, %v, changes with them", len(p), brief(p))
		}
	}
}

// P6.4: so is a child, whether it is a run more, or one that goes on.
func TestChildIsNewMemory(t *testing.T) {
	for _, p := range append(good(), nil) {
		for _, id := range append(ids(), api.Id{T: Last(p).T + 1, R: Last(p).R}) {
			want, e := underInWords(p, id)
			if e != api.OK {
				continue
			}
			around, a := within(p)
			was := slices.Clone(around)
			one, _ := Under(a, id)
			two, _ := Under(a, id)
			spoil(one)
			if !slices.Equal(two, want) || !slices.Equal(around, was) {
				t.Fatalf("a child of %d runs, %v, shares memory", len(p), brief(p))
			}
			spoil(around)
			if !slices.Equal(two, want) {
				t.Fatalf("a child of %d runs, %v, changes with them", len(p), brief(p))
			}
		}
	}
}

// P6.4: so are stamps.
func TestIdsAreNewMemory(t *testing.T) {
	for _, p := range good() {
		around, a := within(p)
		one, _ := Ids(a)
		two, _ := Ids(a)
		for i := range one {
			one[i] = api.Id{T: 77, R: 7}
		}
		spoil(around)
		if !slices.Equal(two, stamps(p)) {
			t.Fatalf("the stamps of %d runs, %v, share memory", len(p), brief(p))
		}
	}
}

// P1, P2: nothing is kept from call to call.
func TestKeepsNothing(t *testing.T) {
	for _, one := range all() {
		for _, two := range [][]api.Run{nil, of(run(1, 0, 2), run(9, 1, 3)), alone(64), of(run(1, 0, 4096)), of(run(1, 0, 2), run(3, 0, 1))} {
			Check(one)
			Compare(one, two)
			Begins(one, two)
			Under(one, api.Id{T: 1 << 30, R: 1})
			Last(one)
			Ids(one)
			Same(one, two)
			Twin(one)
			checks(t, two)
			tells(t, two)
			holds(t, two, of(run(1, 0, 3)))
			under(t, two, api.Id{T: 12, R: 1})
			if !Same(Twin(two), two) {
				t.Fatalf("behind %v another twin of %v", brief(one), brief(two))
			}
		}
	}
}

// runsFrom makes bytes runs, three each, of which nearly all may stand behind each other.
func runsFrom(b []byte) []api.Run {
	var p []api.Run
	at := 0
	for ; len(b) >= 3; b = b[3:] {
		r := run(uint32(at+1+int(b[0]%4)), b[1]%8, 1+int(b[2]))
		switch {
		case b[1] > 250:
			r.R = b[1]
		case b[0] > 250:
			r.T = 1<<30 - uint32(b[2])
		case b[0] > 245:
			r.Many = int(b[2]) - 1
		}
		p = append(p, r)
		at = last(r)
	}
	return p
}

// P1, P6.1, P6.2, P6.5: whatever three places, of two of which the first runs are the same.
func FuzzCompare(f *testing.F) {
	f.Add([]byte{}, []byte{0, 0, 1}, []byte{0, 0, 2})
	f.Add([]byte{0, 0, 0}, []byte{3, 0, 0}, []byte{2, 1, 0})
	f.Add([]byte{0, 0, 1, 0, 1, 4}, []byte{255, 0, 9}, []byte{250, 0, 0})
	f.Add(make([]byte, 192), []byte{0, 1, 1}, []byte{1, 255, 1})
	f.Fuzz(func(t *testing.T, head, x, y []byte) {
		a, b := runsFrom(slices.Concat(head, x)), runsFrom(slices.Concat(head, y))
		l := [][]api.Run{a, b, runsFrom(head), runsFrom(x)}
		for _, a := range l {
			checks(t, a)
			tells(t, a)
			for _, b := range l {
				holds(t, a, b)
				if isOne(a) && isOne(b) && (Compare(a, b) != -Compare(b, a) || (Compare(a, b) == 0) != Same(a, b)) {
					t.Fatalf("%v and %v: %d, %d", brief(a), brief(b), Compare(a, b), Compare(b, a))
				}
			}
		}
	})
}

// P1, P6.3, P6.4: whatever place and stamp.
func FuzzUnder(f *testing.F) {
	for _, id := range ids() {
		f.Add([]byte{0, 0, 1, 1, 1, 3}, id.T, id.R)
	}
	f.Add([]byte{}, uint32(1), uint8(0))
	f.Add(make([]byte, 192), uint32(65), uint8(0))
	f.Add([]byte{255, 0, 0}, uint32(1<<30), uint8(0))
	f.Fuzz(func(t *testing.T, b []byte, at uint32, r uint8) {
		p := runsFrom(b)
		around, a := within(p)
		was := slices.Clone(around)
		id := api.Id{T: at, R: r}
		under(t, a, id)
		if !slices.Equal(around, was) {
			t.Fatalf("Under(%v, %v) turned it", brief(p), id)
		}
		if child, e := Under(a, id); e == api.OK && (Last(child) != id || !Begins(a, child) || Compare(a, child) != -1 || Check(child) != api.OK) {
			t.Fatalf("Under(%v, %v): %v is no child", brief(p), id, brief(child))
		}
	})
}
