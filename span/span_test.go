package span

import (
	"math"
	"slices"
	"testing"

	"octavo/api"
)

// of is spans from each even one of numbers to the one behind it.
func of(l ...uint32) []api.Span {
	var out []api.Span
	for i := 0; i < len(l); i += 2 {
		out = append(out, api.Span{From: l[i], To: l[i+1]})
	}
	return out
}

// mayBe is what spans that may be are, by the chapter's words.
func mayBe(l []api.Span) bool {
	for i, s := range l {
		if s.From < 1 || s.To < s.From || s.To > 1<<30 || i > 0 && int(s.From) < int(l[i-1].To)+2 {
			return false
		}
	}
	return len(l) <= 1024
}

// among is whether a time is one of those of spans.
func among(l []api.Span, t uint32) bool {
	for _, s := range l {
		if s.From <= t && t <= s.To {
			return true
		}
	}
	return false
}

// cuts is where what two lists have may change, rising, from 1 to the one behind the last time.
func cuts(a, b []api.Span) []uint32 {
	l := []uint32{1, 1<<30 + 1}
	for _, s := range slices.Concat(a, b) {
		l = append(l, s.From, s.To+1)
	}
	slices.Sort(l)
	return slices.Compact(l)
}

// ofTwo is what two lists have to give: the times of which has says so, in as few spans as can be.
func ofTwo(a, b []api.Span, has func(a, b bool) bool) ([]api.Span, api.Errno) {
	if !mayBe(a) || !mayBe(b) {
		return nil, api.ErrBad
	}
	var out []api.Span
	l := cuts(a, b)
	for i, from := range l[:len(l)-1] {
		if !has(among(a, from), among(b, from)) {
			continue
		}
		if n := len(out); n > 0 && out[n-1].To == from-1 {
			out[n-1].To = l[i+1] - 1
		} else {
			out = append(out, api.Span{From: from, To: l[i+1] - 1})
		}
	}
	if len(out) > 1024 {
		return nil, api.ErrMany
	}
	return out, api.OK
}

// joinInWords is what Join has to answer.
func joinInWords(a, b []api.Span) ([]api.Span, api.Errno) {
	return ofTwo(a, b, func(a, b bool) bool { return a || b })
}

// lessInWords is what Less has to answer.
func lessInWords(a, b []api.Span) ([]api.Span, api.Errno) {
	return ofTwo(a, b, func(a, b bool) bool { return a && !b })
}

// addInWords is what Add has to answer.
func addInWords(l []api.Span, from, to uint32) ([]api.Span, api.Errno) {
	switch {
	case !mayBe(l):
		return nil, api.ErrBad
	case from < 1 || from > to || to > 1<<30:
		return nil, api.ErrArg
	}
	return joinInWords(l, of(from, to))
}

// small is all spans of so many times from one on.
func small(from, many uint32) [][]api.Span {
	var all [][]api.Span
	for bits := range uint32(1) << many {
		var l []api.Span
		for i := range many {
			t := from + i
			switch {
			case bits>>i&1 == 0:
			case i > 0 && bits>>(i-1)&1 == 1:
				l[len(l)-1].To = t
			default:
				l = append(l, api.Span{From: t, To: t})
			}
		}
		all = append(all, l)
	}
	return all
}

// alone is so many times from one on, each two greater than the one ahead.
func alone(from uint32, many int) []api.Span {
	l := make([]api.Span, many)
	for i := range l {
		t := from + 2*uint32(i)
		l[i] = api.Span{From: t, To: t}
	}
	return l
}

// some is so many spans that are made up, always the same ones for one seed.
func some(seed, many int) []api.Span {
	var l []api.Span
	at := uint32(0)
	for range many {
		seed = (seed*1103515245 + 12345) % (1 << 31)
		from := at + 2 + uint32(seed>>8%5)
		if at == 0 {
			from--
		}
		at = from + uint32(seed>>11%7)
		l = append(l, api.Span{From: from, To: at})
	}
	return l
}

// good is spans of the edges, all of which may be.
func good() [][]api.Span {
	l := [][]api.Span{
		nil, {},
		of(1, 1), of(2, 2), of(1, 2), of(1, 3), of(3, 5), of(1, 1<<30), of(2, 1<<30), of(1, 1<<30-1), of(2, 1<<30-1), of(1<<30, 1<<30), of(1<<30-1, 1<<30), of(1<<30-1, 1<<30-1), of(1<<29, 1<<29+9),
		of(1, 1, 3, 3), of(1, 1, 4, 4), of(1, 2, 4, 4), of(3, 5, 8, 9), of(1, 1, 1<<30, 1<<30), of(1, 1<<30-2, 1<<30, 1<<30), of(1, 1, 3, 1<<30), of(1, 1, 3, 1<<30-2, 1<<30, 1<<30), of(2, 255, 257, 65535, 65537, 1<<24, 1<<24+2, 1<<29),
		alone(1, 2), alone(1, 1023), alone(1, 1024), alone(2, 1023), alone(2, 1024), alone(1<<30-2046, 1024), alone(1<<30-2047, 1024), append(alone(1, 1023), of(2047, 1<<30)...), append(of(1, 5000), alone(5002, 1023)...),
	}
	for n := range 12 {
		l = append(l, some(n, 1+n*n))
	}
	return append(l, some(50, 1023), some(51, 1024))
}

// bad is spans that may not be.
func bad() [][]api.Span {
	l := [][]api.Span{
		of(1, 2, 3, 3), of(1, 2, 2, 3), of(1, 2, 1, 2), of(1, 2, 1, 1), of(1, 9, 3, 4), of(5, 6, 1, 2), of(5, 6, 1, 9), of(3, 5, 6, 7), of(1<<30-1, 1<<30-1, 1<<30, 1<<30), of(1<<30, 1<<30, 1, 1), of(1<<30, 1<<30, 1<<30+2, 1<<30+2), of(1, 1, 3, 3, 4, 4), of(1, 1, 4, 3), of(1, 1, 3, 1<<30+1),
		alone(1, 1025), alone(1, 1026), alone(2, 2048), alone(1, 1<<16), alone(1<<30-2047, 1025), alone(0, 1024), alone(1<<30-2045, 1024), make([]api.Span, 1), make([]api.Span, 1024), make([]api.Span, 1025), slices.Repeat(of(1, 1), 2), slices.Repeat(of(1, 1<<30), 1024), slices.Repeat(of(1, 1), 1<<16),
	}
	for _, s := range badSpans() {
		l = append(l, of(s.From, s.To), of(1, 1, s.From, s.To), of(s.From, s.To, 5000, 5001), of(1, 1, s.From, s.To, 5000, 5001))
	}
	return l
}

// badSpans is spans that may stand in no list, each for one reason.
func badSpans() []api.Span {
	return of(0, 0, 0, 1, 0, 9, 0, 1<<30, 0, math.MaxUint32, 3, 2, 9, 3, 9, 0, 1<<30, 1<<30-1, 1<<30, 0, 3, 1<<30+1, 1<<30, 1<<30+1, 1<<30+1, 1<<30+1, 1<<30+1, 1<<30, 3, 1<<31, 3, 1<<31+3, 1<<31, 3, 3, math.MaxUint32-1, 3, math.MaxUint32, math.MaxUint32, math.MaxUint32, math.MaxUint32, 3)
}

// all is lists of all kinds.
func all() [][]api.Span {
	return slices.Concat(good(), bad())
}

// times is those of the edges, of which some may not be.
var times = []uint32{0, 1, 2, 3, 4, 5, 6, 7, 8, 9, 10, 254, 255, 256, 257, 1022, 1023, 1024, 1025, 2046, 2047, 2048, 2049, 2050, 4999, 5000, 5001, 5002, 65535, 65536, 65537, 1 << 24, 1 << 29, 1<<30 - 2047, 1<<30 - 2046, 1<<30 - 3, 1<<30 - 2, 1<<30 - 1, 1 << 30, 1<<30 + 1, 1<<30 + 2, 1 << 31, math.MaxUint32 - 1, math.MaxUint32}

// brief is a list that is short enough to be told.
func brief(l []api.Span) []api.Span {
	return l[:min(len(l), 6)]
}

func checks(t *testing.T, l []api.Span) {
	t.Helper()
	want := api.ErrBad
	if mayBe(l) {
		want = api.OK
	}
	if e := Check(l); e != want {
		t.Fatalf("Check of %d spans, %v: %d; want %d", len(l), brief(l), e, want)
	}
}

func has(t *testing.T, l []api.Span, at uint32) {
	t.Helper()
	if is, want := Has(l, at), mayBe(l) && among(l, at); is != want {
		t.Fatalf("Has of %d spans, %v, and %d: %t; want %t", len(l), brief(l), at, is, want)
	}
}

func counts(t *testing.T, l []api.Span) {
	t.Helper()
	want := 0
	if mayBe(l) {
		for _, s := range l {
			want += int(s.To) - int(s.From) + 1
		}
	}
	if n := Count(l); n != want {
		t.Fatalf("Count of %d spans, %v: %d; want %d", len(l), brief(l), n, want)
	}
}

func adds(t *testing.T, l []api.Span, from, to uint32) {
	t.Helper()
	want, refusal := addInWords(l, from, to)
	if out, e := Add(l, from, to); e != refusal || !slices.Equal(out, want) {
		t.Fatalf("Add of %d spans, %v, from %d to %d: %d, %v, %d; want %d, %v, %d", len(l), brief(l), from, to, len(out), brief(out), e, len(want), brief(want), refusal)
	}
}

func joins(t *testing.T, a, b []api.Span) {
	t.Helper()
	want, refusal := joinInWords(a, b)
	if out, e := Join(a, b); e != refusal || !slices.Equal(out, want) {
		t.Fatalf("Join of %d spans, %v, and %d, %v: %d, %v, %d; want %d, %v, %d", len(a), brief(a), len(b), brief(b), len(out), brief(out), e, len(want), brief(want), refusal)
	}
}

func leaves(t *testing.T, a, b []api.Span) {
	t.Helper()
	want, refusal := lessInWords(a, b)
	if out, e := Less(a, b); e != refusal || !slices.Equal(out, want) {
		t.Fatalf("Less of %d spans, %v, and %d, %v: %d, %v, %d; want %d, %v, %d", len(a), brief(a), len(b), brief(b), len(out), brief(out), e, len(want), brief(want), refusal)
	}
}

func refused(t *testing.T, what string, out []api.Span, e, want api.Errno) {
	t.Helper()
	if len(out) != 0 || e != want {
		t.Errorf("%s: %d spans, %v, %d; want none, %d", what, len(out), brief(out), e, want)
	}
}

// P7.1, Check: the edges that the chapter names, one by one.
func TestCheckTellsKnown(t *testing.T) {
	for _, c := range []struct {
		what string
		l    []api.Span
		want api.Errno
	}{
		{"nil", nil, api.OK}, {"no spans", []api.Span{}, api.OK}, {"1023 spans", alone(1, 1023), api.OK}, {"1024 spans", alone(1, 1024), api.OK}, {"1025 spans", alone(1, 1025), api.ErrBad},
		{"From of 0", of(0, 1), api.ErrBad}, {"From, To of 0", of(0, 0), api.ErrBad}, {"From of 1", of(1, 1), api.OK},
		{"To one below From", of(5, 4), api.ErrBad}, {"To as From", of(5, 5), api.OK}, {"To of 0", of(1, 0), api.ErrBad},
		{"To of MaxTime", of(1, 1<<30), api.OK}, {"To of one more", of(1, 1<<30+1), api.ErrBad}, {"From of MaxTime", of(1<<30, 1<<30), api.OK}, {"From of one more", of(1<<30+1, 1<<30+1), api.ErrBad}, {"the greatest To", of(1, math.MaxUint32), api.ErrBad},
		{"From as the To ahead", of(3, 5, 5, 7), api.ErrBad}, {"From one greater", of(3, 5, 6, 7), api.ErrBad}, {"From two greater", of(3, 5, 7, 7), api.OK}, {"From three greater", of(3, 5, 8, 9), api.OK},
		{"back", of(5, 6, 1, 2), api.ErrBad}, {"twice", of(5, 6, 5, 6), api.ErrBad}, {"a span behind MaxTime", of(1<<30, 1<<30, 1<<30+2, 1<<30+2), api.ErrBad}, {"a span behind the greatest To", of(1, math.MaxUint32, 1, 1), api.ErrBad}, {"a zero span behind", of(1, 1, 0, 0), api.ErrBad},
	} {
		if e := Check(c.l); e != c.want {
			t.Errorf("Check of %s: %d; want %d", c.what, e, c.want)
		}
	}
}

// P7.1, Check: each span of the edges, alone, and any two of them.
func TestCheckTellsOneAndTwo(t *testing.T) {
	var spans []api.Span
	edges := []uint32{0, 1, 2, 3, 4, 5, 6, 7, 8, 1<<30 - 3, 1<<30 - 2, 1<<30 - 1, 1 << 30, 1<<30 + 1, 1<<30 + 2, 1 << 31, math.MaxUint32 - 1, math.MaxUint32}
	for _, from := range edges {
		for _, to := range edges {
			spans = append(spans, api.Span{From: from, To: to})
		}
	}
	for _, a := range spans {
		checks(t, []api.Span{a})
		counts(t, []api.Span{a})
		for _, b := range spans {
			checks(t, []api.Span{a, b})
			counts(t, []api.Span{a, b})
		}
	}
}

// P7.1, Check: what is wrong is found wherever it stands, and spans are counted.
func TestCheckFindsBad(t *testing.T) {
	for _, at := range []int{0, 1, 2, 511, 512, 1021, 1022, 1023} {
		l := alone(2, 1024)
		for _, s := range append(badSpans(), of(l[at].From-1, l[at].To-1, l[at].From, l[at].To+1, l[at].From-1, l[at].To+1, l[at].From+1, l[at].To)...) {
			was := l[at]
			l[at] = s
			checks(t, l)
			has(t, l, was.From)
			counts(t, l)
			l[at] = was
		}
		checks(t, l)
		l[at].From, l[at].To = 1, 1<<30
		checks(t, l)
		checks(t, l[:at+1])
		checks(t, l[at:])
	}
	for many := 1000; many < 1050; many++ {
		checks(t, alone(1, many))
		checks(t, some(many, many))
	}
}

// P7.1, Check, Count: all lists of the edges.
func TestCheckTellsAll(t *testing.T) {
	for _, l := range good() {
		if !mayBe(l) || Check(l) != api.OK {
			t.Errorf("Check of %d spans, %v: %d", len(l), brief(l), Check(l))
		}
		counts(t, l)
	}
	for _, l := range bad() {
		if mayBe(l) || Check(l) != api.ErrBad || Count(l) != 0 {
			t.Errorf("Check of %d spans, %v: %d, Count %d", len(l), brief(l), Check(l), Count(l))
		}
	}
}

// P7.1, Has, Count: of spans that are known.
func TestHasAndCountTellKnown(t *testing.T) {
	for _, c := range []struct {
		l    []api.Span
		many int
		in   []uint32
		out  []uint32
	}{
		{nil, 0, nil, times},
		{of(3, 5, 8, 9), 5, []uint32{3, 4, 5, 8, 9}, []uint32{0, 1, 2, 6, 7, 10, 1 << 30, 1<<31 + 3, math.MaxUint32}},
		{of(1, 1), 1, []uint32{1}, []uint32{0, 2, 1 << 30}},
		{of(1<<30, 1<<30), 1, []uint32{1 << 30}, []uint32{0, 1, 1<<30 - 1, 1<<30 + 1, 1 << 31}},
		{of(1, 1<<30), 1 << 30, []uint32{1, 2, 1<<30 - 1, 1 << 30}, []uint32{0, 1<<30 + 1, math.MaxUint32}},
		{of(1, 1<<30-2, 1<<30, 1<<30), 1<<30 - 1, []uint32{1, 1<<30 - 2, 1 << 30}, []uint32{0, 1<<30 - 1, 1<<30 + 1}},
		{alone(1, 1024), 1024, []uint32{1, 3, 1023, 1025, 2045, 2047}, []uint32{0, 2, 1024, 2046, 2048, 2049}},
		{alone(1, 1025), 0, nil, times},
		{of(3, 5, 6, 7), 0, nil, times},
		{of(0, 9), 0, nil, times},
		{of(1, 1<<30+1), 0, nil, times},
		{of(5, 4), 0, nil, times},
	} {
		if n := Count(c.l); n != c.many {
			t.Errorf("Count of %d spans, %v: %d; want %d", len(c.l), brief(c.l), n, c.many)
		}
		for _, at := range c.in {
			if !Has(c.l, at) {
				t.Errorf("%d spans, %v, have not %d", len(c.l), brief(c.l), at)
			}
		}
		for _, at := range c.out {
			if Has(c.l, at) {
				t.Errorf("%d spans, %v, have %d", len(c.l), brief(c.l), at)
			}
		}
	}
}

// P7.1, Has: of all lists, each time of the edges, and where spans begin and end.
func TestHasOfAll(t *testing.T) {
	for _, l := range all() {
		for _, at := range times {
			has(t, l, at)
		}
		for i := 0; i < len(l); i += 1 + len(l)/20 {
			for by := range uint32(3) {
				has(t, l, l[i].From+by-1)
				has(t, l, l[i].To+by-1)
			}
		}
	}
	for _, l := range small(1, 7) {
		counts(t, l)
		for at := range uint32(10) {
			has(t, l, at)
		}
	}
}

// P7.1, Same and Twin: of any ones, such as may not be too.
func TestSameAndTwin(t *testing.T) {
	for i, a := range all() {
		for k, b := range all() {
			want := i == k || len(a)+len(b) == 0 || len(a) == len(b) && slices.Equal(a, b)
			if Same(a, b) != want || Same(b, a) != want {
				t.Errorf("Same of %d spans, %v, and %d, %v: %t", len(a), brief(a), len(b), brief(b), !want)
			}
		}
		if b := Twin(a); !slices.Equal(a, b) || !Same(a, b) {
			t.Errorf("Twin of %d spans, %v: %d, %v", len(a), brief(a), len(b), brief(b))
		}
		for at := 0; at < len(a); at += 1 + len(a)/40 {
			for _, turn := range of(1, 0, 0, 1, 1<<31, 0, 0, 1<<31) {
				b := slices.Clone(a)
				b[at].From += turn.From
				b[at].To += turn.To
				if Same(a, b) || Same(b, a) {
					t.Fatalf("Same of %d spans, %v, and with the one at %d turned by %v", len(a), brief(a), at, turn)
				}
			}
		}
		if len(a) > 0 && (Same(a, a[1:]) || Same(a[:len(a)-1], a) || Same(a, nil)) {
			t.Errorf("Same of %d spans, %v, and less of them", len(a), brief(a))
		}
	}
}

// P7.2, Add: times put that touch one span, two, all, or none.
func TestAddTellsKnown(t *testing.T) {
	for _, c := range []struct {
		what     string
		l        []api.Span
		from, to uint32
		want     []api.Span
	}{
		{"none there", nil, 3, 5, of(3, 5)},
		{"all times", nil, 1, 1 << 30, of(1, 1<<30)},
		{"the first time", nil, 1, 1, of(1, 1)},
		{"the last time", nil, 1 << 30, 1 << 30, of(1<<30, 1<<30)},
		{"one behind", of(3, 5), 6, 6, of(3, 6)},
		{"one ahead", of(3, 5), 2, 2, of(2, 5)},
		{"two behind", of(3, 5), 7, 7, of(3, 5, 7, 7)},
		{"two ahead", of(3, 5), 1, 1, of(1, 1, 3, 5)},
		{"none", of(3, 5), 8, 9, of(3, 5, 8, 9)},
		{"none, between", of(3, 5, 9, 9), 7, 7, of(3, 5, 7, 7, 9, 9)},
		{"two", of(3, 5, 8, 9), 4, 7, of(3, 9)},
		{"two, by the gap alone", of(3, 5, 8, 9), 6, 7, of(3, 9)},
		{"the gap's first time", of(3, 5, 8, 9), 6, 6, of(3, 6, 8, 9)},
		{"the gap's last time", of(3, 5, 8, 9), 7, 7, of(3, 5, 7, 9)},
		{"a gap of one", of(3, 5, 7, 9), 6, 6, of(3, 9)},
		{"within one", of(3, 5, 8, 9), 4, 4, of(3, 5, 8, 9)},
		{"one as it is", of(3, 5, 8, 9), 8, 9, of(3, 5, 8, 9)},
		{"over one", of(3, 5, 8, 9, 20, 30), 7, 10, of(3, 5, 7, 10, 20, 30)},
		{"over two of three", of(3, 5, 8, 9, 20, 30), 1, 18, of(1, 18, 20, 30)},
		{"over two of three, and the third", of(3, 5, 8, 9, 20, 30), 1, 19, of(1, 30)},
		{"over all", of(3, 5, 8, 9, 20, 30), 2, 31, of(2, 31)},
		{"over all there are", alone(1, 1024), 1, 1 << 30, of(1, 1<<30)},
		{"up to the last time", of(3, 5, 1<<30, 1<<30), 1 << 29, 1<<30 - 1, of(3, 5, 1<<29, 1<<30)},
		{"from the first time", of(2, 2, 9, 9), 1, 1, of(1, 2, 9, 9)},
	} {
		if out, e := Add(c.l, c.from, c.to); e != api.OK || !slices.Equal(out, c.want) {
			t.Errorf("Add, %s: %v, %d; want %v", c.what, brief(out), e, c.want)
		}
	}
}

// P7.2, Add: what is refused, and what is told first.
func TestAddRefusesKnown(t *testing.T) {
	for _, c := range []struct {
		what     string
		l        []api.Span
		from, to uint32
		want     api.Errno
	}{
		{"from of 0", nil, 0, 3, api.ErrArg}, {"from, to of 0", nil, 0, 0, api.ErrArg}, {"to one below from", nil, 3, 2, api.ErrArg}, {"to of 0", of(3, 5), 1, 0, api.ErrArg},
		{"to one more than may be", nil, 1, 1<<30 + 1, api.ErrArg}, {"from and to one more", nil, 1<<30 + 1, 1<<30 + 1, api.ErrArg}, {"from one more, to not", nil, 1<<30 + 1, 1 << 30, api.ErrArg}, {"the greatest to", of(3, 5), 1, math.MaxUint32, api.ErrArg}, {"the greatest from", of(3, 5), math.MaxUint32, 1, api.ErrArg},
		{"from of 0 to what may not be", of(3, 5, 6, 7), 0, 3, api.ErrBad}, {"to what may not be", of(5, 4), 1, 3, api.ErrBad}, {"to 1025 spans", alone(1, 1025), 1, 1 << 30, api.ErrBad}, {"from of 0 to 1025 spans", alone(1, 1025), 0, 1, api.ErrBad},
		{"one more", alone(1, 1024), 2049, 2049, api.ErrMany}, {"one more, last", alone(1, 1024), 1 << 30, 1 << 30, api.ErrMany}, {"one more, first", alone(3, 1024), 1, 1, api.ErrMany}, {"one more, between", append(alone(1, 512), alone(1027, 512)...), 1025, 1025, api.ErrMany},
		{"from of 0 to 1024 spans", alone(3, 1024), 0, 0, api.ErrArg}, {"to one below from, to 1024 spans", alone(3, 1024), 9999, 9998, api.ErrArg}, {"too great a to, to 1024 spans", alone(3, 1024), 9999, 1<<30 + 1, api.ErrArg},
	} {
		out, e := Add(c.l, c.from, c.to)
		refused(t, "Add, "+c.what, out, e, c.want)
	}
}

// P7.2, Add: to all small ones all times, at both ends of what may be.
func TestAddToSmall(t *testing.T) {
	for _, base := range []uint32{0, 1<<30 - 7} {
		for _, l := range small(base+1, 7) {
			for from := range uint32(10) {
				for to := range uint32(10) {
					adds(t, l, base+from, base+to)
				}
			}
		}
	}
}

// P7.2, Add: to all lists all times of the edges.
func TestAddToAll(t *testing.T) {
	for _, l := range all() {
		edges := times
		if len(l) > 300 {
			edges = []uint32{0, 1, 2, 3, 1024, 1025, 2048, 2049, 5001, 1<<30 - 2047, 1<<30 - 1, 1 << 30, 1<<30 + 1, math.MaxUint32}
		}
		for _, from := range edges {
			for _, to := range edges {
				adds(t, l, from, to)
			}
		}
	}
}

// P7.2, Add: what is put comes to MaxOps spans and one more, wherever it stands.
func TestAddComesToMaxOps(t *testing.T) {
	for _, many := range []int{1023, 1024} {
		whole := alone(3, many+1)
		for at := 0; at <= many; at += 31 {
			l := slices.Concat(whole[:at], whole[at+1:])
			gap := whole[at].From
			out, e := Add(l, gap, gap)
			if many == 1023 && (e != api.OK || !slices.Equal(out, whole)) {
				t.Fatalf("Add of %d to 1023 spans: %d, %d", gap, len(out), e)
			}
			if many == 1024 {
				refused(t, "one more than 1024 spans", out, e, api.ErrMany)
			}
			last := l[many-1].To
			for _, put := range of(gap-1, gap, gap, gap+1, gap-1, gap+1, gap-2, gap, 1, 1, 1, 2, 1, 1<<30, last, 1<<30, last+1, 1<<30, last+2, 1<<30, 1<<30, 1<<30) {
				adds(t, l, put.From, put.To)
			}
		}
	}
}

// P7.2: two lists that are known, joined, and what is left.
func TestJoinAndLessTellKnown(t *testing.T) {
	for _, c := range []struct{ a, b, join, less []api.Span }{
		{nil, nil, nil, nil},
		{of(1, 2), of(4, 4, 9, 9), of(1, 2, 4, 4, 9, 9), of(1, 2)},
		{of(1, 9), of(3, 3, 7, 20), of(1, 20), of(1, 2, 4, 6)},
		{of(3, 3, 7, 20), of(1, 9), of(1, 20), of(10, 20)},
		{nil, of(3, 5), of(3, 5), nil},
		{of(3, 5), nil, of(3, 5), of(3, 5)},
		{of(3, 5), of(3, 5), of(3, 5), nil},
		{of(3, 5), of(6, 7), of(3, 7), of(3, 5)},
		{of(6, 7), of(3, 5), of(3, 7), of(6, 7)},
		{of(3, 5), of(7, 7), of(3, 5, 7, 7), of(3, 5)},
		{of(3, 5, 9, 9), of(6, 8), of(3, 9), of(3, 5, 9, 9)},
		{of(3, 9), of(3, 3), of(3, 9), of(4, 9)},
		{of(3, 9), of(9, 9), of(3, 9), of(3, 8)},
		{of(3, 9), of(5, 5), of(3, 9), of(3, 4, 6, 9)},
		{of(3, 9), of(1, 3, 9, 12), of(1, 12), of(4, 8)},
		{of(1, 1<<30), of(1, 1), of(1, 1<<30), of(2, 1<<30)},
		{of(1, 1<<30), of(1<<30, 1<<30), of(1, 1<<30), of(1, 1<<30-1)},
		{of(1, 1<<30), of(1<<29, 1<<29), of(1, 1<<30), of(1, 1<<29-1, 1<<29+1, 1<<30)},
		{of(1, 1<<29), of(1<<29+1, 1<<30), of(1, 1<<30), of(1, 1<<29)},
		{of(1<<30, 1<<30), of(1, 1<<30-1), of(1, 1<<30), of(1<<30, 1<<30)},
		{alone(1, 1024), alone(2, 1024), of(1, 2048), alone(1, 1024)},
		{alone(1, 1024), alone(1, 1024), alone(1, 1024), nil},
		{of(1, 2047), alone(2, 1023), of(1, 2047), alone(1, 1024)},
		{alone(1, 512), alone(1025, 512), alone(1, 1024), alone(1, 512)},
	} {
		if out, e := Join(c.a, c.b); e != api.OK || !slices.Equal(out, c.join) {
			t.Errorf("Join of %v, %v: %v, %d; want %v", brief(c.a), brief(c.b), brief(out), e, brief(c.join))
		}
		if out, e := Less(c.a, c.b); e != api.OK || !slices.Equal(out, c.less) {
			t.Errorf("Less of %v, %v: %v, %d; want %v", brief(c.a), brief(c.b), brief(out), e, brief(c.less))
		}
	}
}

// P7.2: what is joined, or left, comes to MaxOps spans and to one more, wherever the last one comes from.
func TestJoinAndLessComeToMaxOps(t *testing.T) {
	full := alone(3, 1024)
	for at := 0; at < 1025; at += 64 {
		many := alone(3, 1025)
		one := slices.Delete(slices.Clone(many), at, at+1)
		for _, two := range [][2][]api.Span{{one, many[at : at+1]}, {many[at : at+1], one}} {
			out, e := Join(two[0], two[1])
			refused(t, "a join of 1025 spans", out, e, api.ErrMany)
		}
		two := alone(3, 1024)
		three := slices.Delete(slices.Clone(two), at%1024, at%1024+1)
		if out, e := Join(three, two[at%1024:]); e != api.OK || !slices.Equal(out, full) {
			t.Fatalf("a join of 1024 spans: %d, %d", len(out), e)
		}
	}
	for _, turn := range []uint32{0, 1, 9999, 1<<30 - 2050} {
		out, e := Less(of(turn+1, turn+2049), alone(turn+2, 1024))
		refused(t, "1025 spans left", out, e, api.ErrMany)
		if out, e := Less(of(turn+1, turn+2048), alone(turn+2, 1024)); e != api.OK || !slices.Equal(out, alone(turn+1, 1024)) {
			t.Errorf("1024 spans left: %d, %d", len(out), e)
		}
		if out, e := Less(of(turn+2, turn+2049), alone(turn+2, 1024)); e != api.OK || !slices.Equal(out, alone(turn+3, 1024)) {
			t.Errorf("1024 spans left, without the first time: %d, %d", len(out), e)
		}
	}
	for _, c := range [][2][]api.Span{{alone(1, 1024), alone(4096, 1024)}, {alone(4096, 1024), alone(1, 1024)}, {alone(1, 1024), alone(1<<30-2046, 1024)}, {some(3, 600), alone(1<<29, 600)}} {
		out, e := Join(c[0], c[1])
		refused(t, "a join of many spans", out, e, api.ErrMany)
		leaves(t, c[0], c[1])
	}
}

// P7.2: lists that may not be, one of two or both, are told ahead of all else.
func TestJoinAndLessRefuseBad(t *testing.T) {
	others := [][]api.Span{nil, of(3, 5), of(1, 1<<30), alone(1, 1024), alone(1, 1025), of(5, 4), of(3, 5, 6, 7), of(0, 1)}
	for _, l := range bad() {
		for _, other := range others {
			for _, two := range [][2][]api.Span{{l, other}, {other, l}, {l, l}} {
				out, e := Join(two[0], two[1])
				refused(t, "a join of what may not be", out, e, api.ErrBad)
				out, e = Less(two[0], two[1])
				refused(t, "what is left of what may not be", out, e, api.ErrBad)
			}
		}
	}
}

// P7.2: all small ones, any two of them, at both ends of what may be.
func TestJoinAndLessOfSmall(t *testing.T) {
	for _, from := range []uint32{1, 1<<30 - 6} {
		for _, a := range small(from, 7) {
			for _, b := range small(from, 7) {
				joins(t, a, b)
				leaves(t, a, b)
			}
		}
	}
}

// P7.2: any two lists of the edges that may be.
func TestJoinAndLessOfGood(t *testing.T) {
	for _, a := range good() {
		for _, b := range good() {
			joins(t, a, b)
			leaves(t, a, b)
		}
	}
}

// P7.4: a time is in a join, if it is in one of both, in what is left, if it is in the first one and not in the other one.
func TestTimesOfJoinAndLess(t *testing.T) {
	for _, a := range small(2, 6) {
		for _, b := range small(2, 6) {
			both, _ := Join(a, b)
			left, _ := Less(a, b)
			for at := range uint32(10) {
				if Has(both, at) != (Has(a, at) || Has(b, at)) {
					t.Fatalf("%d, of %v and %v joined: %t", at, a, b, Has(both, at))
				}
				if Has(left, at) != (Has(a, at) && !Has(b, at)) {
					t.Fatalf("%d, of %v without %v: %t", at, a, b, Has(left, at))
				}
			}
			if Check(both) != api.OK || Check(left) != api.OK || Count(both) != Count(left)+Count(b) {
				t.Fatalf("%v and %v: %v joined, %v left", a, b, both, left)
			}
		}
	}
}

// P7.4: joining two hangs on no order, and twice is once; what is left and what was taken away, joined, have all.
func TestSetsOfTwo(t *testing.T) {
	l := slices.Concat(small(1, 7), good())
	for _, a := range l {
		for _, b := range l {
			both, e := Join(a, b)
			other, f := Join(b, a)
			if e != f || !Same(both, other) {
				t.Fatalf("%v and %v: %v, %d one way, %v, %d the other way", brief(a), brief(b), brief(both), e, brief(other), f)
			}
			if e != api.OK {
				continue
			}
			twice, e := Join(both, b)
			if e != api.OK || !Same(twice, both) {
				t.Fatalf("%v and %v, twice: %v, %d", brief(a), brief(b), brief(twice), e)
			}
			left, e := Less(a, b)
			if e != api.OK {
				continue
			}
			all, e := Join(left, b)
			if e != api.OK || !Same(all, both) {
				t.Fatalf("%v without %v, and these: %v, %d", brief(a), brief(b), brief(all), e)
			}
			none, e := Less(left, a)
			if e != api.OK || len(none) != 0 {
				t.Fatalf("%v without %v has more: %v, %d", brief(a), brief(b), brief(none), e)
			}
		}
	}
}

// P7.4: joining three hangs on no order; to take two away, one by one, is to take them away joined.
func TestSetsOfThree(t *testing.T) {
	l := small(1, 5)
	for _, a := range l {
		for _, b := range l {
			for _, c := range l {
				ab, _ := Join(a, b)
				bc, _ := Join(b, c)
				one, _ := Join(ab, c)
				two, _ := Join(a, bc)
				if !Same(one, two) {
					t.Fatalf("%v, %v and %v: %v, and %v", a, b, c, one, two)
				}
				less, _ := Less(a, b)
				less, _ = Less(less, c)
				if at, _ := Less(a, bc); !Same(less, at) {
					t.Fatalf("%v without %v, %v: %v, and %v", a, b, c, less, at)
				}
			}
		}
	}
}

// P7.4: times put one by one, in whatever order, are one set.
func TestTimesOneByOne(t *testing.T) {
	want := of(1, 3, 7, 9, 20, 20, 31, 61)
	var in []uint32
	for at := range uint32(62) {
		if among(want, at) {
			in = append(in, at)
		}
	}
	for _, step := range []int{1, 3, 5, 7, 11, 13, 37} {
		var l []api.Span
		for i := range in {
			at := in[i*step%len(in)]
			adds(t, l, at, at)
			l, _ = Add(l, at, at)
			if !Has(l, at) {
				t.Fatalf("%v have not %d, put last", l, at)
			}
		}
		if !Same(l, want) || Count(l) != len(in) {
			t.Fatalf("times that came by steps of %d: %v", step, l)
		}
	}
}

// within is a list with others around it in its memory, that may be written over.
func within(l []api.Span) (around, in []api.Span) {
	around = slices.Concat(of(3, 3), l, of(9, 8, 7, 7))
	return around, around[1 : 1+len(l)]
}

// P7.3: what is handed in is only read, what lies around it in its memory too, and tells nothing.
func TestOnlyReads(t *testing.T) {
	for _, l := range all() {
		around, a := within(l)
		was := slices.Clone(around)
		checks(t, a)
		counts(t, a)
		for _, at := range []uint32{0, 1, 2, 3, 6, 2049, 1 << 30, 1<<30 + 1} {
			has(t, a, at)
			adds(t, a, at, at)
			adds(t, a, at, 1<<30)
		}
		for _, q := range [][]api.Span{nil, of(1, 1<<30), of(3, 5, 8, 9), alone(1, 1024), alone(2, 700), of(3, 5, 6, 7)} {
			other, b := within(q)
			then := slices.Clone(other)
			joins(t, a, b)
			joins(t, b, a)
			leaves(t, a, b)
			leaves(t, b, a)
			Same(a, b)
			if !slices.Equal(other, then) {
				t.Fatalf("%d spans, %v, are turned", len(q), brief(q))
			}
		}
		joins(t, a, a)
		leaves(t, a, a)
		if !Same(a, l) || !slices.Equal(Twin(a), l) || !slices.Equal(around, was) {
			t.Fatalf("%d spans, %v, are turned", len(l), brief(l))
		}
	}
}

// spoil writes over all that a list has room for.
func spoil(l []api.Span) {
	l = l[:cap(l)]
	for i := range l {
		l[i] = api.Span{From: 77, To: 7}
	}
}

// newMemory calls for what is answered of two lists: these may be changed behind the call, and the answer by its caller.
func newMemory(t *testing.T, what string, a, b []api.Span, call func(a, b []api.Span) []api.Span) {
	t.Helper()
	aroundA, a := within(a)
	aroundB, b := within(b)
	wasA, wasB := slices.Clone(aroundA), slices.Clone(aroundB)
	want := slices.Clone(call(a, b))
	one, two := call(a, b), call(a, b)
	spoil(one)
	if !slices.Equal(two, want) || !slices.Equal(aroundA, wasA) || !slices.Equal(aroundB, wasB) {
		t.Fatalf("%s of %v, %v shares memory", what, brief(a), brief(b))
	}
	spoil(aroundA)
	spoil(aroundB)
	if !slices.Equal(two, want) {
		t.Fatalf("%s of %v, %v changes with them", what, brief(wasA), brief(wasB))
	}
}

// P7.3: what is answered is new memory, such as is the same as what was handed in too.
func TestAnswersAreNewMemory(t *testing.T) {
	for _, a := range all() {
		newMemory(t, "Twin", a, nil, func(a, _ []api.Span) []api.Span { return Twin(a) })
		for _, at := range []uint32{1, 2, 3, 4, 6, 2049, 1 << 30} {
			newMemory(t, "Add", a, nil, func(a, _ []api.Span) []api.Span {
				out, _ := Add(a, at, at)
				return out
			})
		}
	}
	for _, a := range good() {
		for _, b := range good() {
			newMemory(t, "Join", a, b, func(a, b []api.Span) []api.Span {
				out, _ := Join(a, b)
				return out
			})
			newMemory(t, "Less", a, b, func(a, b []api.Span) []api.Span {
				out, _ := Less(a, b)
				return out
			})
		}
	}
}

// P1, P2: nothing is kept from call to call.
func TestKeepsNothing(t *testing.T) {
	for _, one := range all() {
		for _, two := range [][]api.Span{nil, of(3, 5, 8, 9), of(1, 1<<30), alone(1, 100), of(3, 5, 6, 7)} {
			Check(one)
			Has(one, 3)
			Add(one, 1, 1<<30)
			Join(one, two)
			Less(one, two)
			Count(one)
			Same(one, two)
			Twin(one)
			checks(t, two)
			has(t, two, 3)
			counts(t, two)
			adds(t, two, 6, 7)
			joins(t, two, of(3, 3, 6, 6))
			leaves(t, two, of(3, 3, 6, 6))
			if !Same(Twin(two), two) {
				t.Fatalf("behind %v another twin of %v", brief(one), brief(two))
			}
		}
	}
}

// spansFrom makes bytes spans, two each, of which nearly all may stand behind each other.
func spansFrom(b []byte) []api.Span {
	var l []api.Span
	at := uint32(0)
	for ; len(b) >= 2; b = b[2:] {
		s := api.Span{From: at + 2 + uint32(b[0]%8), To: at + 2 + uint32(b[0]%8) + uint32(b[1]%8)}
		switch {
		case b[0] > 252:
			s.From = at + uint32(b[1]%4)
		case b[0] > 250:
			s.To = s.From - 1 + uint32(b[1]%2)
		case b[0] > 248:
			s.To = 1<<30 - 2 + uint32(b[1]%4)
		case b[0] > 247:
			s.From, s.To = 1<<30-40+uint32(b[1]%8), 1<<30-32
		}
		l = append(l, s)
		at = s.To
	}
	return l
}

// P1, P7.1, P7.2, P7.3: whatever spans and times.
func FuzzAdd(f *testing.F) {
	for _, at := range times {
		f.Add([]byte{0, 1, 1, 1, 3, 0}, at, at)
		f.Add([]byte{3, 7, 249, 1}, at, uint32(1<<30))
	}
	f.Add([]byte{}, uint32(1), uint32(0))
	f.Add(make([]byte, 2048), uint32(5000), uint32(5000))
	f.Add(make([]byte, 2050), uint32(5000), uint32(5000))
	f.Fuzz(func(t *testing.T, b []byte, from, to uint32) {
		l := spansFrom(b)
		around, a := within(l)
		was := slices.Clone(around)
		checks(t, a)
		counts(t, a)
		for by := range uint32(3) {
			has(t, a, from+by-1)
			has(t, a, to+by-1)
		}
		adds(t, a, from, to)
		adds(t, a, from%64, to%64)
		if out, e := Add(a, from, to); e == api.OK && (!Has(out, from) || !Has(out, to) || Check(out) != api.OK) {
			t.Fatalf("Add of %v, from %d to %d: %v", brief(l), from, to, brief(out))
		}
		if !slices.Equal(around, was) {
			t.Fatalf("Add of %v, from %d to %d, turned them", brief(l), from, to)
		}
	})
}

// P1, P7.2, P7.3, P7.4: whatever two lists.
func FuzzJoin(f *testing.F) {
	f.Add([]byte{}, []byte{0, 0})
	f.Add([]byte{0, 1, 1, 1, 3, 0}, []byte{1, 0, 2, 4})
	f.Add([]byte{0, 0, 249, 2}, []byte{248, 0, 0, 1})
	f.Add([]byte{255, 0, 1, 1}, []byte{251, 0})
	f.Add(make([]byte, 2048), []byte{1, 0, 249, 2})
	f.Add(make([]byte, 2046), []byte{248, 0})
	f.Add([]byte{249, 2}, make([]byte, 2048))
	f.Fuzz(func(t *testing.T, x, y []byte) {
		a, b := spansFrom(x), spansFrom(y)
		wasA, wasB := slices.Clone(a), slices.Clone(b)
		for _, two := range [][2][]api.Span{{a, b}, {b, a}, {a, a}} {
			joins(t, two[0], two[1])
			leaves(t, two[0], two[1])
		}
		if !slices.Equal(a, wasA) || !slices.Equal(b, wasB) {
			t.Fatalf("%v and %v are turned", brief(wasA), brief(wasB))
		}
		both, e := Join(a, b)
		left, f := Less(a, b)
		if e != api.OK || f != api.OK {
			return
		}
		if all, e := Join(left, b); e != api.OK || !Same(all, both) || Count(both) != Count(left)+Count(b) {
			t.Fatalf("%v without %v, and these: %v, %d; want %v", brief(a), brief(b), brief(all), e, brief(both))
		}
	})
}
