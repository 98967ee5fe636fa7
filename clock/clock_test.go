package clock

import (
	"cmp"
	"math"
	"slices"
	"testing"

	"octavo/api"
)

// spans is those from each even one of numbers to the one behind it.
func spans(l ...uint32) []api.Span {
	var out []api.Span
	for i := 0; i < len(l); i += 2 {
		out = append(out, api.Span{From: l[i], To: l[i+1]})
	}
	return out
}

// by is a replica's times, from each even one of numbers to the one behind it.
func by(r uint8, l ...uint32) api.Times {
	return api.Times{R: r, Spans: spans(l...)}
}

// alone is so many times of a replica from one on, each two greater than the one ahead.
func alone(r uint8, from uint32, many int) api.Times {
	x := api.Times{R: r, Spans: make([]api.Span, many)}
	for i := range x.Spans {
		t := from + 2*uint32(i)
		x.Spans[i] = api.Span{From: t, To: t}
	}
	return x
}

// of is a clock of some replicas.
func of(l ...api.Times) []api.Times {
	return l
}

// ofAll is a clock of all replicas.
func ofAll(times func(r uint8) api.Times) []api.Times {
	var c []api.Times
	for r := range uint8(8) {
		c = append(c, times(r))
	}
	return c
}

// ids is a stamp of each two numbers, a time and a replica.
func ids(l ...uint32) []api.Id {
	var out []api.Id
	for i := 0; i < len(l); i += 2 {
		out = append(out, api.Id{T: l[i], R: uint8(l[i+1])})
	}
	return out
}

// equal is whether two clocks are the same in all fields.
func equal(a, b []api.Times) bool {
	return slices.EqualFunc(a, b, func(x, y api.Times) bool { return x.R == y.R && slices.Equal(x.Spans, y.Spans) })
}

// copied is a clock in new memory.
func copied(c []api.Times) []api.Times {
	var out []api.Times
	for _, x := range c {
		out = append(out, api.Times{R: x.R, Spans: append([]api.Span{}, x.Spans...)})
	}
	return out
}

// spansMayBe is what spans that may be are, by the words of chapter 7.
func spansMayBe(l []api.Span) bool {
	for i, s := range l {
		if s.From < 1 || s.To < s.From || s.To > 1<<30 || i > 0 && int(s.From) < int(l[i-1].To)+2 {
			return false
		}
	}
	return len(l) <= 1024
}

// mayBe is what clocks that may be are, by the chapter's words.
func mayBe(c []api.Times) bool {
	for i, x := range c {
		if x.R > 7 || i > 0 && x.R <= c[i-1].R || len(x.Spans) < 1 || !spansMayBe(x.Spans) {
			return false
		}
	}
	return true
}

// stampMayBe is what stamps that may be are, by the words of chapter 5.
func stampMayBe(a api.Id) bool {
	return a.T >= 1 && a.T <= 1<<30 && a.R <= 7
}

// among is whether a stamp is one of those of a clock.
func among(c []api.Times, a api.Id) bool {
	for _, x := range c {
		for _, s := range x.Spans {
			if x.R == a.R && s.From <= a.T && a.T <= s.To {
				return true
			}
		}
	}
	return false
}

// many is how many stamps a clock has, which may be.
func many(c []api.Times) int {
	n := 0
	for _, x := range c {
		for _, s := range x.Spans {
			n += int(s.To) - int(s.From) + 1
		}
	}
	return n
}

// stamps is all those of a clock, replica by replica, rising, or the first ones of them if they are very many.
func stamps(c []api.Times) []api.Id {
	var l []api.Id
	for _, x := range c {
		for _, s := range x.Spans {
			for t := int(s.From); t <= int(s.To) && len(l) < 5000; t++ {
				l = append(l, api.Id{T: uint32(t), R: x.R})
			}
		}
	}
	return l
}

// inOrder is stamps in new memory, replica by replica, rising, each once.
func inOrder(l []api.Id) []api.Id {
	out := slices.Clone(l)
	slices.SortFunc(out, func(a, b api.Id) int { return cmp.Or(cmp.Compare(a.R, b.R), cmp.Compare(a.T, b.T)) })
	return slices.Compact(out)
}

// spansBy is those of a replica in a clock.
func spansBy(c []api.Times, r uint8) []api.Span {
	for _, x := range c {
		if x.R == r {
			return x.Spans
		}
	}
	return nil
}

// spansOfTwo is what two lists have to give: the times of which has says so, in as few spans as can be.
func spansOfTwo(a, b []api.Span, has func(a, b bool) bool) []api.Span {
	type turn struct {
		at uint32
		of int
	}
	var turns []turn
	for i, l := range [2][]api.Span{a, b} {
		for _, s := range l {
			turns = append(turns, turn{s.From, i}, turn{s.To + 1, i})
		}
	}
	slices.SortFunc(turns, func(x, y turn) int { return cmp.Compare(x.at, y.at) })
	var out []api.Span
	var in [2]bool
	open := false
	for i, x := range turns {
		in[x.of] = !in[x.of]
		if i+1 < len(turns) && turns[i+1].at == x.at || has(in[0], in[1]) == open {
			continue
		}
		if open = !open; open {
			out = append(out, api.Span{From: x.at})
		} else {
			out[len(out)-1].To = x.at - 1
		}
	}
	return out
}

// ofTwo is what two clocks have to give: the stamps of which has says so.
func ofTwo(a, b []api.Times, has func(a, b bool) bool) ([]api.Times, api.Errno) {
	if !mayBe(a) || !mayBe(b) {
		return nil, api.ErrBad
	}
	var out []api.Times
	for r := range uint8(8) {
		l := spansOfTwo(spansBy(a, r), spansBy(b, r), has)
		if len(l) > 1024 {
			return nil, api.ErrMany
		}
		if len(l) > 0 {
			out = append(out, api.Times{R: r, Spans: l})
		}
	}
	return out, api.OK
}

// joinInWords is what Join has to answer.
func joinInWords(a, b []api.Times) ([]api.Times, api.Errno) {
	return ofTwo(a, b, func(a, b bool) bool { return a || b })
}

// lessInWords is what Less has to answer.
func lessInWords(a, b []api.Times) ([]api.Times, api.Errno) {
	return ofTwo(a, b, func(a, b bool) bool { return a && !b })
}

// addInWords is what Add has to answer.
func addInWords(c []api.Times, a api.Id) ([]api.Times, api.Errno) {
	if !mayBe(c) || !stampMayBe(a) {
		return nil, api.ErrBad
	}
	return joinInWords(c, of(by(a.R, a.T, a.T)))
}

// small is all clocks of so many times from one on, by some replicas that rise.
func small(from, times uint32, by ...uint8) [][]api.Times {
	var all [][]api.Times
	for bits := range 1 << (int(times) * len(by)) {
		var c []api.Times
		for i, r := range by {
			var l []api.Span
			for k := range times {
				was, is := k > 0 && bits>>(i*int(times)+int(k)-1)&1 == 1, bits>>(i*int(times)+int(k))&1 == 1
				switch {
				case is && was:
					l[len(l)-1].To = from + k
				case is:
					l = append(l, api.Span{From: from + k, To: from + k})
				}
			}
			if len(l) > 0 {
				c = append(c, api.Times{R: r, Spans: l})
			}
		}
		all = append(all, c)
	}
	return all
}

// some is a clock that is made up, always the same one for one seed.
func some(seed int) []api.Times {
	next := func(n int) int {
		seed = (seed*1103515245 + 12345) % (1 << 31)
		return seed >> 8 % n
	}
	var c []api.Times
	for r := range uint8(8) {
		if next(3) == 0 {
			continue
		}
		at := uint32(next(4)) * uint32(next(1<<20))
		x := api.Times{R: r}
		for range 1 + next(20) {
			from := at + 2 + uint32(next(5))
			at = from + uint32(next(7))
			x.Spans = append(x.Spans, api.Span{From: from, To: at})
		}
		c = append(c, x)
	}
	return c
}

// good is clocks of the edges, all of which may be.
func good() [][]api.Times {
	l := [][]api.Times{
		nil, {},
		of(by(0, 9, 9), by(1, 3, 4)), of(by(1, 3, 5)), of(by(1, 3, 6)), of(by(0, 6, 6), by(1, 3, 5)), of(by(0, 1, 2)), of(by(0, 3, 3), by(2, 7, 7)), of(by(0, 1, 9), by(1, 1, 1)), of(by(0, 2, 9), by(1, 1, 5)),
		of(by(3, 1, 1, 3, 3)), of(by(3, 2, 2), by(4, 2, 2)), of(by(3, 1, 1, 1<<30, 1<<30), by(5, 1<<30-1, 1<<30)), of(by(0, 1, 1<<30-2, 1<<30, 1<<30), by(7, 2, 255, 257, 65535, 1<<24, 1<<29)), of(by(6, 1, 2), by(7, 1, 2)), of(by(0, 1, 2), by(7, 1, 2)), of(by(1, 4, 4), by(3, 4, 4), by(5, 4, 4)),
		ofAll(func(r uint8) api.Times { return by(r, 1, 1) }), ofAll(func(r uint8) api.Times { return by(r, 1, 1<<30) }), ofAll(func(r uint8) api.Times { return by(r, 1<<30, 1<<30) }), ofAll(func(r uint8) api.Times { return by(r, 1+uint32(r), 9, 20, 20+uint32(r)) }), ofAll(func(r uint8) api.Times { return by(r, 1, 128) }), ofAll(func(r uint8) api.Times { return alone(r, 1+uint32(r), 1024) }),
		of(alone(2, 1, 1023)), of(alone(2, 1, 1024)), of(alone(2, 2, 1024), by(3, 1, 1)), of(by(0, 1, 1), alone(7, 1<<30-2046, 1024)), of(alone(6, 1<<30-2047, 1024)), of(by(2, 1, 1024)), of(by(2, 1, 1025)), of(by(0, 1, 1), by(2, 2, 1024)), of(by(0, 1, 1), by(2, 1, 1024)), of(by(2, 1, 512), by(5, 1, 512)),
	}
	for r := range uint8(8) {
		l = append(l, of(by(r, 1, 1)), of(by(r, 2, 3, 5, 1<<30)))
	}
	for n := range 10 {
		l = append(l, some(n))
	}
	return l
}

// badSpans is lists of spans that may stand at no replica, each for one reason.
func badSpans() [][]api.Span {
	return [][]api.Span{
		nil, {}, spans(0, 0), spans(0, 1), spans(0, 1<<30), spans(5, 4), spans(1, 0), spans(1, 1<<30+1), spans(1<<30+1, 1<<30+1), spans(1<<30, 1<<30+1), spans(1, math.MaxUint32), spans(math.MaxUint32, math.MaxUint32), spans(math.MaxUint32, 1),
		spans(3, 5, 6, 7), spans(3, 5, 5, 7), spans(3, 5, 3, 5), spans(5, 6, 1, 2), spans(1, 1, 3, 3, 4, 4), spans(1, 1, 3, 3, 5, 4), spans(1, 1, 0, 0), spans(1, math.MaxUint32, 1, 1), spans(1<<30, 1<<30, 1<<30+2, 1<<30+2),
		alone(0, 1, 1025).Spans, alone(0, 0, 1024).Spans, alone(0, 1<<30-2045, 1024).Spans, make([]api.Span, 1024), make([]api.Span, 5000),
	}
}

// bad is clocks that may not be.
func bad() [][]api.Times {
	l := [][]api.Times{
		of(by(8, 1, 1)), of(by(9, 1, 1)), of(by(128, 1, 1)), of(by(255, 1, 1)), of(by(0, 1, 1), by(8, 1, 1)), of(by(7, 1, 1), by(8, 1, 1)), of(by(7, 1, 1), by(255, 1, 1)), of(by(8, 1, 1), by(0, 1, 1)), of(by(255, 1, 1), by(0, 1, 1)), of(by(8)), of(by(255, 5, 4)),
		of(by(1, 1, 1), by(0, 1, 1)), of(by(7, 1, 1), by(0, 1, 1)), of(by(7, 1, 1), by(6, 1, 1)), of(by(0, 1, 1), by(2, 1, 1), by(1, 1, 1)), of(by(5, 1, 1), by(4, 1, 1), by(6, 1, 1)), of(by(1, 3, 5), by(0, 1, 1)),
		of(by(0, 1, 1), by(0, 1, 1)), of(by(0, 1, 1), by(0, 3, 3)), of(by(7, 1, 1), by(7, 3, 3)), of(by(2, 3, 3), by(2, 1, 1)), of(by(0, 1, 1), by(1, 1, 1), by(1, 5, 5)), of(by(0, 1, 1), by(1, 1, 1), by(0, 5, 5)), of(by(3, 1, 1), by(3, 1, 1), by(3, 1, 1)),
		make([]api.Times, 1), make([]api.Times, 8), make([]api.Times, 9), slices.Repeat(of(by(0, 1, 1)), 1<<16), slices.Repeat(of(by(7, 1, 1<<30)), 1025),
	}
	for _, r := range []uint8{0, 6, 7, 8, 255} {
		l = append(l, append(ofAll(func(r uint8) api.Times { return by(r, 1, 1) }), by(r, 3, 3)))
	}
	for i, b := range badSpans() {
		r := uint8(i % 6)
		l = append(l, of(api.Times{R: r, Spans: b}), of(by(r, 1, 1), api.Times{R: r + 1, Spans: b}), of(api.Times{R: r, Spans: b}, by(r+2, 1, 1)), of(by(r, 1, 1), api.Times{R: r + 1, Spans: b}, by(r+2, 1, 1)))
	}
	return l
}

// all is clocks of all kinds.
func all() [][]api.Times {
	return slices.Concat(good(), bad())
}

// edges is stamps of which some may not be.
func edges() []api.Id {
	var l []api.Id
	for _, t := range []uint32{0, 1, 2, 3, 4, 5, 6, 9, 10, 1024, 1025, 2047, 2048, 2049, 1 << 24, 1 << 29, 1<<30 - 2046, 1<<30 - 1, 1 << 30, 1<<30 + 1, 1 << 31, math.MaxUint32} {
		for _, r := range []uint8{0, 1, 2, 3, 6, 7, 8, 255} {
			l = append(l, api.Id{T: t, R: r})
		}
	}
	return l
}

// brief is a clock that is short enough to be told.
func brief(c []api.Times) []api.Times {
	var out []api.Times
	for _, x := range c[:min(len(c), 9)] {
		out = append(out, api.Times{R: x.R, Spans: x.Spans[:min(len(x.Spans), 4)]})
	}
	return out
}

func checks(t *testing.T, c []api.Times) {
	t.Helper()
	want := api.ErrBad
	if mayBe(c) {
		want = api.OK
	}
	if e := Check(c); e != want {
		t.Fatalf("Check of %v: %d; want %d", brief(c), e, want)
	}
}

func has(t *testing.T, c []api.Times, a api.Id) {
	t.Helper()
	if is, want := Has(c, a), mayBe(c) && among(c, a); is != want {
		t.Fatalf("Has of %v, and %v: %t; want %t", brief(c), a, is, want)
	}
}

func counts(t *testing.T, c []api.Times) {
	t.Helper()
	count, top := 0, uint32(0)
	if mayBe(c) {
		count = many(c)
		for _, x := range c {
			for _, s := range x.Spans {
				top = max(top, s.To)
			}
		}
	}
	if Count(c) != count || Top(c) != top {
		t.Fatalf("Count, Top of %v: %d, %d; want %d, %d", brief(c), Count(c), Top(c), count, top)
	}
}

func tells(t *testing.T, c []api.Times) {
	t.Helper()
	var want []api.Id
	refusal := api.OK
	switch {
	case !mayBe(c):
		refusal = api.ErrBad
	case many(c) > 1024:
		refusal = api.ErrMany
	default:
		want = stamps(c)
	}
	if l, e := Ids(c); e != refusal || !slices.Equal(l, want) {
		t.Fatalf("Ids of %v: %d, %v, %d; want %d, %v, %d", brief(c), len(l), l[:min(len(l), 9)], e, len(want), want[:min(len(want), 9)], refusal)
	}
}

func makes(t *testing.T, l []api.Id) {
	t.Helper()
	c, e := Of(l)
	switch {
	case len(l) > 1024:
		refused(t, "Of more than 1024 stamps", c, e, api.ErrMany)
	case slices.ContainsFunc(l, func(a api.Id) bool { return !stampMayBe(a) }):
		refused(t, "Of stamps that may not be", c, e, api.ErrBad)
	case e != api.OK || !mayBe(c) || !slices.Equal(stamps(c), inOrder(l)):
		t.Fatalf("Of %d stamps, %v: %v, %d", len(l), l[:min(len(l), 9)], brief(c), e)
	}
}

// answers tells whether a clock, or an error, came as it should.
func answers(t *testing.T, call string, a, b, c []api.Times, e api.Errno, want []api.Times, refusal api.Errno) {
	t.Helper()
	if e != refusal || !equal(c, want) {
		t.Fatalf("%s of %v, %v: %v, %d; want %v, %d", call, brief(a), brief(b), brief(c), e, brief(want), refusal)
	}
}

func adds(t *testing.T, c []api.Times, a api.Id) {
	t.Helper()
	out, e := Add(c, a)
	want, refusal := addInWords(c, a)
	answers(t, "Add", c, of(by(a.R, a.T, a.T)), out, e, want, refusal)
}

func joins(t *testing.T, a, b []api.Times) {
	t.Helper()
	c, e := Join(a, b)
	want, refusal := joinInWords(a, b)
	answers(t, "Join", a, b, c, e, want, refusal)
}

func leaves(t *testing.T, a, b []api.Times) {
	t.Helper()
	c, e := Less(a, b)
	want, refusal := lessInWords(a, b)
	answers(t, "Less", a, b, c, e, want, refusal)
}

func refused(t *testing.T, what string, c []api.Times, e, want api.Errno) {
	t.Helper()
	if len(c) != 0 || e != want {
		t.Fatalf("%s: %v, %d; want none, %d", what, brief(c), e, want)
	}
}

// P8.1, Check: the edges that the chapter names, one by one.
func TestCheckTellsKnown(t *testing.T) {
	for _, c := range []struct {
		what string
		c    []api.Times
		want api.Errno
	}{
		{"nil", nil, api.OK}, {"no replicas", of(), api.OK}, {"a replica of 0", of(by(0, 1, 1)), api.OK}, {"a replica of 7", of(by(7, 1, 1)), api.OK}, {"a replica of 8", of(by(8, 1, 1)), api.ErrBad}, {"a replica of 255", of(by(255, 1, 1)), api.ErrBad}, {"8 behind 7", of(by(7, 1, 1), by(8, 1, 1)), api.ErrBad},
		{"0 behind 1", of(by(1, 3, 5), by(0, 1, 1)), api.ErrBad}, {"1 behind 0", of(by(0, 1, 1), by(1, 3, 5)), api.OK}, {"7 behind 0", of(by(0, 1, 1), by(7, 1, 1)), api.OK}, {"0 behind 7", of(by(7, 1, 1), by(0, 1, 1)), api.ErrBad}, {"0 behind 255", of(by(255, 1, 1), by(0, 1, 1)), api.ErrBad},
		{"0 twice", of(by(0, 1, 1), by(0, 3, 3)), api.ErrBad}, {"7 twice", of(by(7, 1, 1), by(7, 3, 3)), api.ErrBad}, {"2 twice, not side by side", of(by(2, 1, 1), by(3, 1, 1), by(2, 3, 3)), api.ErrBad},
		{"no spans", of(by(1)), api.ErrBad}, {"spans that are empty", of(api.Times{R: 1, Spans: []api.Span{}}), api.ErrBad}, {"no spans, last", of(by(0, 1, 1), by(1)), api.ErrBad}, {"no spans, first", of(by(0), by(1, 1, 1)), api.ErrBad}, {"no spans, between", of(by(0, 1, 1), by(1), by(2, 1, 1)), api.ErrBad},
		{"spans that touch", of(by(1, 3, 5, 6, 7)), api.ErrBad}, {"spans that don't", of(by(1, 3, 5, 7, 7)), api.OK}, {"a time of 0", of(by(1, 0, 1)), api.ErrBad}, {"the first time", of(by(1, 1, 1)), api.OK}, {"the last time", of(by(1, 1<<30, 1<<30)), api.OK}, {"one more", of(by(1, 1, 1<<30+1)), api.ErrBad}, {"bad spans, last", of(by(0, 1, 1), by(1, 5, 4)), api.ErrBad}, {"bad spans, first", of(by(0, 5, 4), by(1, 1, 1)), api.ErrBad},
		{"1024 spans", of(alone(1, 1, 1024)), api.OK}, {"1025 spans", of(alone(1, 1, 1025)), api.ErrBad}, {"1024 spans of two", of(alone(1, 1, 1024), alone(2, 1, 1024)), api.OK}, {"1024 spans of all", ofAll(func(r uint8) api.Times { return alone(r, 1, 1024) }), api.OK}, {"1025 spans of the last one", of(alone(1, 1, 1024), alone(2, 1, 1025)), api.ErrBad},
		{"all replicas", ofAll(func(r uint8) api.Times { return by(r, 1, 1<<30) }), api.OK}, {"all but twice the last one", append(ofAll(func(r uint8) api.Times { return by(r, 1, 1) }), by(7, 3, 3)), api.ErrBad}, {"all and one more", append(ofAll(func(r uint8) api.Times { return by(r, 1, 1) }), by(8, 1, 1)), api.ErrBad},
	} {
		if e := Check(c.c); e != c.want {
			t.Errorf("Check of a clock of %s: %d; want %d", c.what, e, c.want)
		}
	}
}

// P8.1, Check: any two replicas, and any three up to 9.
func TestCheckTellsReplicas(t *testing.T) {
	for a := range 256 {
		checks(t, of(by(uint8(a), 1, 1)))
		for b := range 256 {
			checks(t, of(by(uint8(a), 1, 1), by(uint8(b), 5, 9)))
		}
	}
	for n := range uint8(10) {
		for m := range uint8(10) {
			for k := range uint8(10) {
				checks(t, of(by(n, 1, 1), by(m, 1, 1), by(k, 1, 1)))
			}
		}
	}
}

// P8.1, Check, Count, Top, Has: what is wrong is found at whichever replica it stands.
func TestCheckFindsBad(t *testing.T) {
	for at := range 8 {
		for _, b := range badSpans() {
			c := ofAll(func(r uint8) api.Times { return by(r, 1, 1) })
			c[at].Spans = b
			for _, part := range [][]api.Times{c, c[at:], c[:at+1], c[at : at+1]} {
				if Check(part) != api.ErrBad || Count(part) != 0 || Top(part) != 0 || Has(part, api.Id{T: 1, R: 7}) || Has(part, api.Id{T: 1}) {
					t.Fatalf("a clock with %d bad spans at %d: Check %d, Count %d, Top %d", len(b), at, Check(part), Count(part), Top(part))
				}
			}
			checks(t, c[:at])
			checks(t, c[at+1:])
		}
	}
}

// P8.1, Check, Count, Top: all clocks of the edges.
func TestCheckTellsAll(t *testing.T) {
	for _, c := range good() {
		if !mayBe(c) || Check(c) != api.OK {
			t.Errorf("Check of %v: %d", brief(c), Check(c))
		}
		counts(t, c)
	}
	for _, c := range bad() {
		if mayBe(c) || Check(c) != api.ErrBad || Count(c) != 0 || Top(c) != 0 {
			t.Errorf("Check of %v: %d, Count %d, Top %d", brief(c), Check(c), Count(c), Top(c))
		}
	}
}

// P8.1, Has, Count, Top: of clocks that are known.
func TestHasCountAndTopTellKnown(t *testing.T) {
	for _, c := range []struct {
		c       []api.Times
		many    int
		top     uint32
		in, out []api.Id
	}{
		{nil, 0, 0, nil, edges()},
		{of(), 0, 0, nil, edges()},
		{of(by(0, 9, 9), by(1, 3, 4)), 3, 9, ids(9, 0, 3, 1, 4, 1), ids(9, 1, 3, 0, 4, 0, 2, 1, 5, 1, 8, 0, 10, 0, 9, 2, 3, 2, 9, 8, 3, 9, 0, 0, 0, 1)},
		{of(by(0, 3, 4), by(1, 9, 9)), 3, 9, ids(9, 1, 3, 0), ids(9, 0, 3, 1)},
		{of(by(2, 1, 3, 5, 6, 9, 9)), 6, 9, ids(1, 2, 3, 2, 5, 2, 6, 2, 9, 2), ids(0, 2, 4, 2, 7, 2, 8, 2, 10, 2, 1, 0, 1, 1, 1, 3)},
		{of(by(7, 1, 1)), 1, 1, ids(1, 7), ids(1, 0, 1, 6, 1, 8, 0, 7, 2, 7)},
		{of(by(0, 1<<30, 1<<30)), 1, 1 << 30, ids(1<<30, 0), ids(1<<30, 1, 1<<30-1, 0, 1<<30+1, 0, 1<<31, 0)},
		{ofAll(func(r uint8) api.Times { return by(r, 1, 1<<30) }), 1 << 33, 1 << 30, ids(1, 0, 1<<30, 7, 1<<29, 3), ids(0, 0, 1<<30+1, 7, 1, 8, 0, 7, math.MaxUint32, 3)},
		{ofAll(func(r uint8) api.Times { return alone(r, 1, 1024) }), 8192, 2047, ids(1, 0, 2047, 0, 2047, 7, 1023, 4), ids(2, 0, 2048, 7, 2049, 3, 1024, 4)},
		{of(by(8, 1, 1)), 0, 0, nil, ids(1, 8, 1, 0)},
		{of(by(0, 1, 1), by(8, 1, 1)), 0, 0, nil, ids(1, 8, 1, 0)},
		{of(by(1, 3, 5), by(0, 1, 1)), 0, 0, nil, ids(3, 1, 1, 0)},
		{of(by(0, 1, 1), by(0, 3, 3)), 0, 0, nil, ids(1, 0, 3, 0)},
		{of(by(0, 1, 1), by(1)), 0, 0, nil, ids(1, 0, 1, 1, 0, 1)},
		{of(by(0, 1, 1), by(1, 3, 5, 6, 7)), 0, 0, nil, ids(1, 0, 3, 1, 7, 1)},
		{of(by(0, 0, 5)), 0, 0, nil, ids(0, 0, 5, 0)},
	} {
		if Count(c.c) != c.many || Top(c.c) != c.top {
			t.Errorf("Count, Top of %v: %d, %d; want %d, %d", brief(c.c), Count(c.c), Top(c.c), c.many, c.top)
		}
		for _, a := range c.in {
			if !Has(c.c, a) {
				t.Errorf("%v has not %v", brief(c.c), a)
			}
		}
		for _, a := range c.out {
			if Has(c.c, a) {
				t.Errorf("%v has %v", brief(c.c), a)
			}
		}
	}
}

// P8.1, Has, Count, Top: of all clocks, stamps of the edges, and where spans begin and end.
func TestHasOfAll(t *testing.T) {
	for _, c := range all() {
		counts(t, c)
		for _, a := range edges() {
			has(t, c, a)
		}
		for _, x := range c[:min(len(c), 9)] {
			for i := 0; i < len(x.Spans); i += 1 + len(x.Spans)/9 {
				for by := range uint32(3) {
					for _, r := range []uint8{x.R - 1, x.R, x.R + 1} {
						has(t, c, api.Id{T: x.Spans[i].From + by - 1, R: r})
						has(t, c, api.Id{T: x.Spans[i].To + by - 1, R: r})
					}
				}
			}
		}
	}
	for _, c := range slices.Concat(small(1, 3, 0, 1, 7), small(1<<30-2, 3, 3, 4)) {
		counts(t, c)
		for at := range uint32(6) {
			for r := range uint8(10) {
				has(t, c, api.Id{T: at, R: r})
				has(t, c, api.Id{T: 1<<30 - 3 + at, R: r})
			}
		}
	}
}

// P8.1, Same and Twin: of any ones, such as may not be too.
func TestSameAndTwin(t *testing.T) {
	l := all()
	for _, a := range l {
		for _, b := range l {
			if want := equal(a, b); Same(a, b) != want || Same(b, a) != want {
				t.Errorf("Same of %v, %v: %t", brief(a), brief(b), !want)
			}
		}
		b := Twin(a)
		if !equal(a, b) || !Same(a, b) || !Same(b, a) {
			t.Errorf("Twin of %v: %v", brief(a), brief(b))
		}
		if len(a) > 0 && (Same(a, a[1:]) || Same(a[:len(a)-1], a) || Same(a, nil) || Same(nil, a)) {
			t.Errorf("Same of %v and less of it", brief(a))
		}
		for at := 0; at < len(a); at += 1 + len(a)/20 {
			turned(t, a, at)
		}
	}
	if !Same(nil, of()) || !Same(of(), nil) || !Same(of(by(1)), of(api.Times{R: 1, Spans: []api.Span{}})) {
		t.Error("none and nil are not the same")
	}
}

// turned asks whether a clock is the same with one thing changed at a replica.
func turned(t *testing.T, c []api.Times, at int) {
	t.Helper()
	unlike := func(turn func(x *api.Times)) {
		t.Helper()
		b := slices.Clone(c)
		b[at].Spans = slices.Clone(b[at].Spans)
		turn(&b[at])
		if Same(c, b) || Same(b, c) {
			t.Fatalf("Same of %v, and with what stands at %d turned", brief(c), at)
		}
	}
	unlike(func(x *api.Times) { x.R++ })
	unlike(func(x *api.Times) { x.R ^= 128 })
	unlike(func(x *api.Times) { x.Spans = append(x.Spans, api.Span{}) })
	many := len(c[at].Spans)
	if many == 0 {
		return
	}
	unlike(func(x *api.Times) { x.Spans = nil })
	unlike(func(x *api.Times) { x.Spans = x.Spans[1:] })
	unlike(func(x *api.Times) { x.Spans = x.Spans[:many-1] })
	for _, k := range []int{0, many / 2, many - 1} {
		unlike(func(x *api.Times) { x.Spans[k].From++ })
		unlike(func(x *api.Times) { x.Spans[k].To ^= 1 << 31 })
	}
}

// P8.2, Add: a stamp put to what is known.
func TestAddTellsKnown(t *testing.T) {
	for _, c := range []struct {
		what string
		c    []api.Times
		a    api.Id
		want []api.Times
	}{
		{"to none", nil, api.Id{T: 5, R: 3}, of(by(3, 5, 5))},
		{"to no replicas", of(), api.Id{T: 1}, of(by(0, 1, 1))},
		{"the last one", nil, api.Id{T: 1 << 30, R: 7}, of(by(7, 1<<30, 1<<30))},
		{"right behind", of(by(1, 3, 5)), api.Id{T: 6, R: 1}, of(by(1, 3, 6))},
		{"right ahead", of(by(1, 3, 5)), api.Id{T: 2, R: 1}, of(by(1, 2, 5))},
		{"two behind", of(by(1, 3, 5)), api.Id{T: 7, R: 1}, of(by(1, 3, 5, 7, 7))},
		{"two ahead", of(by(1, 3, 5)), api.Id{T: 1, R: 1}, of(by(1, 1, 1, 3, 5))},
		{"between", of(by(1, 3, 5, 7, 9)), api.Id{T: 6, R: 1}, of(by(1, 3, 9))},
		{"one that is there", of(by(1, 3, 5)), api.Id{T: 4, R: 1}, of(by(1, 3, 5))},
		{"a replica ahead", of(by(1, 3, 5)), api.Id{T: 6}, of(by(0, 6, 6), by(1, 3, 5))},
		{"a replica behind", of(by(1, 3, 5)), api.Id{T: 6, R: 2}, of(by(1, 3, 5), by(2, 6, 6))},
		{"a replica between", of(by(1, 3, 5), by(7, 2, 2)), api.Id{T: 4, R: 6}, of(by(1, 3, 5), by(6, 4, 4), by(7, 2, 2))},
		{"to the second of three", of(by(1, 3, 5), by(2, 3, 5), by(7, 3, 5)), api.Id{T: 6, R: 2}, of(by(1, 3, 5), by(2, 3, 6), by(7, 3, 5))},
		{"to 1023 spans", of(alone(4, 1, 1023)), api.Id{T: 2047, R: 4}, of(alone(4, 1, 1024))},
		{"to 1024 spans, a gap's", of(by(4, 1, 3, 5, 9), alone(5, 1, 1024)), api.Id{T: 4, R: 4}, of(by(4, 1, 9), alone(5, 1, 1024))},
		{"of another one, to 1024 spans", of(alone(4, 1, 1024)), api.Id{T: 9999, R: 5}, of(alone(4, 1, 1024), by(5, 9999, 9999))},
		{"that is there, to 1024 spans", of(alone(4, 1, 1024)), api.Id{T: 2047, R: 4}, of(alone(4, 1, 1024))},
	} {
		if out, e := Add(c.c, c.a); e != api.OK || !equal(out, c.want) {
			t.Errorf("Add, %s: %v, %d; want %v", c.what, brief(out), e, brief(c.want))
		}
	}
}

// P8.2, Add: what is refused, and what is told first.
func TestAddRefusesKnown(t *testing.T) {
	full := alone(2, 3, 1024)
	for _, c := range []struct {
		what string
		c    []api.Times
		a    api.Id
		want api.Errno
	}{
		{"the zero stamp", nil, api.Id{}, api.ErrBad}, {"a time of 0", of(by(1, 3, 5)), api.Id{R: 1}, api.ErrBad}, {"one more than the last time", nil, api.Id{T: 1<<30 + 1}, api.ErrBad}, {"the greatest time", nil, api.Id{T: math.MaxUint32}, api.ErrBad}, {"a replica of 8", nil, api.Id{T: 1, R: 8}, api.ErrBad}, {"a replica of 255", nil, api.Id{T: 1, R: 255}, api.ErrBad},
		{"to a replica of 8", of(by(8, 1, 1)), api.Id{T: 1}, api.ErrBad}, {"of 8 to that", of(by(8, 1, 1)), api.Id{T: 2, R: 8}, api.ErrBad}, {"to what falls", of(by(1, 3, 5), by(0, 1, 1)), api.Id{T: 1}, api.ErrBad}, {"to what comes twice", of(by(1, 3, 5), by(1, 7, 7)), api.Id{T: 6, R: 1}, api.ErrBad}, {"to no spans", of(by(1)), api.Id{T: 6, R: 1}, api.ErrBad}, {"to spans that touch", of(by(1, 3, 5, 6, 6)), api.Id{T: 7, R: 1}, api.ErrBad}, {"to 1025 spans", of(alone(1, 1, 1025)), api.Id{T: 1, R: 1}, api.ErrBad},
		{"one more", of(full), api.Id{T: 9999, R: 2}, api.ErrMany}, {"one more, last", of(full), api.Id{T: 1 << 30, R: 2}, api.ErrMany}, {"one more, first", of(full), api.Id{T: 1, R: 2}, api.ErrMany}, {"one more, of all", ofAll(func(r uint8) api.Times { return alone(r, 3, 1024) }), api.Id{T: 9999, R: 7}, api.ErrMany}, {"one more, of two", of(full, by(3, 1, 1)), api.Id{T: 9999, R: 2}, api.ErrMany},
		{"a time of 0 to 1024 spans", of(full), api.Id{R: 2}, api.ErrBad}, {"too great a time to 1024 spans", of(full), api.Id{T: 1<<30 + 1, R: 2}, api.ErrBad}, {"one more, to what may not be", of(full, by(3)), api.Id{T: 9999, R: 2}, api.ErrBad}, {"one more, to what comes twice", of(full, full), api.Id{T: 9999, R: 2}, api.ErrBad},
	} {
		out, e := Add(c.c, c.a)
		refused(t, "Add, "+c.what, out, e, c.want)
	}
}

// P8.2, Add: to all clocks stamps of the edges, to all small ones all stamps, at both ends of what may be.
func TestAddToAll(t *testing.T) {
	for _, c := range all() {
		for _, a := range edges() {
			adds(t, c, a)
		}
	}
	for _, base := range []uint32{0, 1<<30 - 4} {
		for _, c := range small(base+1, 4, 1, 5) {
			for at := range uint32(7) {
				for r := range uint8(9) {
					adds(t, c, api.Id{T: base + at, R: r})
				}
			}
		}
	}
}

// P8.2, Add: what is put comes to MaxOps spans and one more, of whichever replica, wherever it stands.
func TestAddComesToMaxOps(t *testing.T) {
	for _, many := range []int{1023, 1024} {
		for at := 0; at <= many; at += 31 {
			r := uint8(at % 8)
			whole := alone(r, 3, many+1)
			gap := whole.Spans[at].From
			c := ofAll(func(k uint8) api.Times {
				if k == r {
					return api.Times{R: r, Spans: slices.Concat(whole.Spans[:at], whole.Spans[at+1:])}
				}
				return by(k, 1, 1, 3, 3, 5000, 1<<30)
			})
			want := copied(c)
			want[r] = whole
			out, e := Add(c, api.Id{T: gap, R: r})
			if many == 1023 {
				answers(t, "Add", c, of(by(r, gap, gap)), out, e, want, api.OK)
			} else {
				refused(t, "one more than 1024 spans", out, e, api.ErrMany)
			}
			for _, put := range []uint32{0, 1, 2, 3, 4, gap - 2, gap - 1, gap + 1, gap + 2, 2048, 2049, 2050, 2051, 2052, 2053, 1 << 30, 1<<30 + 1} {
				adds(t, c, api.Id{T: put, R: r})
				adds(t, c, api.Id{T: put, R: 7 - r})
			}
		}
	}
}

// P8.2, Of: stamps that are known.
func TestOfTellsKnown(t *testing.T) {
	for _, c := range []struct {
		l    []api.Id
		want []api.Times
	}{
		{nil, nil},
		{[]api.Id{}, nil},
		{ids(4, 1, 3, 1, 9, 0), of(by(0, 9, 9), by(1, 3, 4))},
		{ids(1, 0), of(by(0, 1, 1))},
		{ids(1, 7, 1, 0), of(by(0, 1, 1), by(7, 1, 1))},
		{ids(1<<30, 7, 1<<30-1, 7), of(by(7, 1<<30-1, 1<<30))},
		{ids(3, 2, 3, 2), of(by(2, 3, 3))},
		{ids(3, 2, 3, 2, 5, 2, 3, 2, 5, 2), of(by(2, 3, 3, 5, 5))},
		{ids(3, 2, 4, 2, 3, 2, 5, 2, 4, 2), of(by(2, 3, 5))},
		{ids(5, 2, 3, 2, 1, 2), of(by(2, 1, 1, 3, 3, 5, 5))},
		{ids(5, 2, 3, 2, 1, 2, 2, 2), of(by(2, 1, 3, 5, 5))},
		{ids(5, 2, 3, 2, 1, 2, 2, 2, 4, 2), of(by(2, 1, 5))},
		{ids(3, 1, 4, 2, 5, 1), of(by(1, 3, 3, 5, 5), by(2, 4, 4))},
		{ids(1, 0, 1<<30, 0), of(by(0, 1, 1, 1<<30, 1<<30))},
	} {
		if out, e := Of(c.l); e != api.OK || !equal(out, c.want) {
			t.Errorf("Of %v: %v, %d; want %v", c.l, out, e, c.want)
		}
	}
}

// P8.2, Of: one stamp of the edges, and any two, and any four of some replicas and times.
func TestOfFew(t *testing.T) {
	for _, a := range edges() {
		makes(t, []api.Id{a})
		for _, b := range edges() {
			makes(t, []api.Id{a, b})
		}
	}
	few := ids(1, 0, 2, 0, 3, 0, 4, 0, 1, 1, 2, 1, 3, 7, 1<<30-1, 0, 1<<30, 0, 1<<30, 1, 0, 0)
	for _, a := range few {
		for _, b := range few {
			for _, c := range few {
				for _, d := range few {
					makes(t, []api.Id{a, b, c, d})
				}
			}
		}
	}
}

// stampsBy is so many stamps, each with a time and a replica by steps, some perhaps twice.
func stampsBy(many int, from uint32, timeStep, times, replicaStep int) []api.Id {
	l := make([]api.Id, many)
	for i := range l {
		l[i] = api.Id{T: from + uint32(i*timeStep%times), R: uint8(i * replicaStep % 8)}
	}
	return l
}

// P8.2, P8.5, Of: MaxOps stamps and fewer, in whatever order, alone, side by side, some twice.
func TestOfMany(t *testing.T) {
	for _, many := range []int{2, 3, 100, 1023, 1024} {
		for _, times := range []int{1, 2, 7, 100, 1024, 2047, 4096, 1 << 20} {
			for _, step := range []int{1, 2, 3, 7, 101, 1023, 4095} {
				for replicas := range 8 {
					makes(t, stampsBy(many, 1, step, times, replicas))
				}
				makes(t, stampsBy(many, 1<<30-uint32(times)+1, step, times, 3))
			}
		}
	}
	full := alone(3, 1, 1024)
	l := stamps(of(full))
	slices.Reverse(l)
	if c, e := Of(l); e != api.OK || !equal(c, of(full)) {
		t.Errorf("Of 1024 stamps, none beside another one: %v, %d", brief(c), e)
	}
	if c, e := Of(slices.Repeat(ids(5, 3), 1024)); e != api.OK || !equal(c, of(by(3, 5, 5))) {
		t.Errorf("Of one stamp 1024 times: %v, %d", brief(c), e)
	}
}

// P8.2, Of: ErrMany for more than MaxOps, ahead of all that is wrong beside, and though some come twice.
func TestOfRefusesMany(t *testing.T) {
	for _, many := range []int{1025, 1026, 2048, 1 << 16, 1 << 20} {
		for _, a := range []api.Id{{}, {T: 1}, {T: 1 << 30, R: 7}, {T: 1, R: 8}, {T: math.MaxUint32, R: 255}} {
			c, e := Of(slices.Repeat([]api.Id{a}, many))
			refused(t, "Of one stamp more often than may be", c, e, api.ErrMany)
		}
		c, e := Of(stampsBy(many, 1, 1, many, 0))
		refused(t, "Of more stamps than may be", c, e, api.ErrMany)
	}
	for _, at := range []int{0, 512, 1023, 1024} {
		for _, a := range []api.Id{{}, {T: 1, R: 8}, {T: 1<<30 + 1}, {T: 2}} {
			l := stampsBy(1025, 1, 1, 1025, 1)
			l[at] = a
			c, e := Of(l)
			refused(t, "Of 1025 stamps", c, e, api.ErrMany)
		}
	}
}

// P8.2, Of: ErrBad wherever a stamp stands that may not be.
func TestOfRefusesBad(t *testing.T) {
	for _, a := range edges() {
		if stampMayBe(a) {
			continue
		}
		for _, many := range []int{1, 2, 3, 1023, 1024} {
			for _, at := range []int{0, many / 2, many - 1} {
				l := stampsBy(many, 1, 3, 2000, 1)
				l[at] = a
				c, e := Of(l)
				refused(t, "Of a stamp that may not be", c, e, api.ErrBad)
			}
		}
	}
}

// P8.3: two clocks that are known, joined, and what is left.
func TestJoinAndLessTellKnown(t *testing.T) {
	for _, c := range []struct{ a, b, join, less []api.Times }{
		{nil, nil, nil, nil},
		{nil, of(), nil, nil},
		{of(by(0, 1, 2)), of(by(0, 3, 3), by(2, 7, 7)), of(by(0, 1, 3), by(2, 7, 7)), of(by(0, 1, 2))},
		{of(by(0, 1, 9), by(1, 1, 1)), of(by(0, 2, 9), by(1, 1, 5)), of(by(0, 1, 9), by(1, 1, 5)), of(by(0, 1, 1))},
		{nil, of(by(3, 1, 2)), of(by(3, 1, 2)), nil},
		{of(by(3, 1, 2)), nil, of(by(3, 1, 2)), of(by(3, 1, 2))},
		{of(by(3, 1, 2)), of(by(3, 1, 2)), of(by(3, 1, 2)), nil},
		{of(by(3, 1, 2)), of(by(4, 1, 2)), of(by(3, 1, 2), by(4, 1, 2)), of(by(3, 1, 2))},
		{of(by(4, 1, 2)), of(by(3, 1, 2)), of(by(3, 1, 2), by(4, 1, 2)), of(by(4, 1, 2))},
		{of(by(0, 1, 1), by(7, 1, 1)), of(by(3, 1, 1)), of(by(0, 1, 1), by(3, 1, 1), by(7, 1, 1)), of(by(0, 1, 1), by(7, 1, 1))},
		{of(by(0, 1, 1), by(3, 2, 4), by(7, 1, 1)), of(by(3, 1, 4)), of(by(0, 1, 1), by(3, 1, 4), by(7, 1, 1)), of(by(0, 1, 1), by(7, 1, 1))},
		{of(by(0, 1, 1), by(3, 2, 4), by(7, 1, 1)), of(by(0, 1, 1), by(3, 3, 3), by(7, 1, 3)), of(by(0, 1, 1), by(3, 2, 4), by(7, 1, 3)), of(by(3, 2, 2, 4, 4))},
		{of(by(0, 1, 4), by(3, 2, 2, 9, 9)), of(by(0, 3, 6), by(1, 1, 1), by(3, 2, 2)), of(by(0, 1, 6), by(1, 1, 1), by(3, 2, 2, 9, 9)), of(by(0, 1, 2), by(3, 9, 9))},
		{of(by(6, 1, 1<<30)), of(by(6, 1<<29, 1<<29)), of(by(6, 1, 1<<30)), of(by(6, 1, 1<<29-1, 1<<29+1, 1<<30))},
		{of(by(6, 1, 1<<29)), of(by(6, 1<<29+1, 1<<30)), of(by(6, 1, 1<<30)), of(by(6, 1, 1<<29))},
		{of(alone(2, 1, 1024)), of(alone(2, 2, 1024)), of(by(2, 1, 2048)), of(alone(2, 1, 1024))},
		{of(by(2, 1, 2047)), of(alone(2, 2, 1023)), of(by(2, 1, 2047)), of(alone(2, 1, 1024))},
		{of(alone(2, 1, 1024)), of(alone(3, 1, 1024)), of(alone(2, 1, 1024), alone(3, 1, 1024)), of(alone(2, 1, 1024))},
		{of(alone(2, 1, 512)), of(alone(2, 1025, 512)), of(alone(2, 1, 1024)), of(alone(2, 1, 512))},
	} {
		if out, e := Join(c.a, c.b); e != api.OK || !equal(out, c.join) {
			t.Errorf("Join of %v, %v: %v, %d; want %v", brief(c.a), brief(c.b), brief(out), e, brief(c.join))
		}
		if out, e := Less(c.a, c.b); e != api.OK || !equal(out, c.less) {
			t.Errorf("Less of %v, %v: %v, %d; want %v", brief(c.a), brief(c.b), brief(out), e, brief(c.less))
		}
	}
}

// P8.3: what is joined, or left, comes to MaxOps spans and to one more, of whichever replica, whatever the others have.
func TestJoinAndLessComeToMaxOps(t *testing.T) {
	for r := range uint8(8) {
		most := func(x api.Times) []api.Times {
			return ofAll(func(k uint8) api.Times {
				if k == r {
					return x
				}
				return by(k, 1, 2, 5, 9)
			})
		}
		whole := alone(r, 3, 1025).Spans
		for at := 0; at < 1025; at += 128 {
			one := api.Times{R: r, Spans: slices.Concat(whole[:at], whole[at+1:])}
			two := of(api.Times{R: r, Spans: whole[at : at+1]})
			for _, pair := range [][2][]api.Times{{of(one), two}, {two, of(one)}, {most(one), two}, {two, most(one)}} {
				c, e := Join(pair[0], pair[1])
				refused(t, "a join of 1025 spans", c, e, api.ErrMany)
			}
			fits := of(api.Times{R: r, Spans: one.Spans[:1023]})
			joins(t, fits, two)
			joins(t, two, fits)
			joins(t, most(fits[0]), two)
			if c, e := Join(fits, two); e != api.OK || len(c) != 1 || len(c[0].Spans) != 1024 {
				t.Fatalf("a join of 1024 spans: %v, %d", brief(c), e)
			}
		}
		for _, from := range []uint32{1, 2, 9999, 1<<30 - 2048} {
			for _, a := range [][]api.Times{of(by(r, from, from+2048)), most(by(r, from, from+2048))} {
				c, e := Less(a, of(alone(r, from+1, 1024)))
				refused(t, "1025 spans left", c, e, api.ErrMany)
				leaves(t, a, of(alone(r, from+1, 1023)))
				leaves(t, a, of(alone(r, from, 1024)))
				leaves(t, a, most(alone(r, from, 1025-1)))
			}
			if c, e := Less(of(by(r, from, from+2047)), of(alone(r, from+1, 1024))); e != api.OK || !equal(c, of(alone(r, from, 1024))) {
				t.Fatalf("1024 spans left: %v, %d", brief(c), e)
			}
		}
	}
}

// P8.3: clocks that may not be, one of two or both, are told ahead of all else.
func TestJoinAndLessRefuseBad(t *testing.T) {
	others := [][]api.Times{nil, of(by(0, 1, 1)), ofAll(func(r uint8) api.Times { return by(r, 1, 1<<30) }), of(alone(1, 1, 1024)), of(by(8, 1, 1)), of(by(1)), of(by(0, 5, 4)), of(by(1, 1, 1), by(0, 1, 1))}
	for _, c := range bad() {
		for _, other := range others {
			for _, two := range [][2][]api.Times{{c, other}, {other, c}, {c, c}} {
				out, e := Join(two[0], two[1])
				refused(t, "a join of what may not be", out, e, api.ErrBad)
				out, e = Less(two[0], two[1])
				refused(t, "what is left of what may not be", out, e, api.ErrBad)
			}
		}
	}
	tooMany, far, wide, holes := alone(1, 1, 1024), alone(1, 9999, 1024), by(1, 1, 2049), alone(1, 2, 1024)
	for _, worse := range []api.Times{by(2), by(8, 1, 1), by(1, 1, 1), by(0, 1, 1), by(3, 5, 4)} {
		for _, two := range [][2][]api.Times{{of(tooMany, worse), of(far)}, {of(tooMany), of(far, worse)}, {of(tooMany, worse), of(far, worse)}} {
			out, e := Join(two[0], two[1])
			refused(t, "a join of too many spans, and of what may not be", out, e, api.ErrBad)
		}
		for _, two := range [][2][]api.Times{{of(wide, worse), of(holes)}, {of(wide), of(holes, worse)}, {of(wide, worse), of(holes, worse)}} {
			out, e := Less(two[0], two[1])
			refused(t, "too many spans left, of what may not be", out, e, api.ErrBad)
		}
	}
}

// P8.3: all small ones, any two of them, at both ends of what may be.
func TestJoinAndLessOfSmall(t *testing.T) {
	for _, l := range [][][]api.Times{small(1, 4, 2, 5), small(1<<30-3, 4, 0, 7), small(1, 1, 0, 1, 2, 3, 4, 5, 6, 7)} {
		for _, a := range l {
			for _, b := range l {
				joins(t, a, b)
				leaves(t, a, b)
			}
		}
	}
}

// P8.3: any two clocks of the edges that may be.
func TestJoinAndLessOfGood(t *testing.T) {
	for _, a := range good() {
		for _, b := range good() {
			joins(t, a, b)
			leaves(t, a, b)
		}
	}
}

// P8.3, Ids: clocks that are known.
func TestIdsTellKnown(t *testing.T) {
	for _, c := range []struct {
		c    []api.Times
		want []api.Id
	}{
		{nil, nil},
		{of(), nil},
		{of(by(0, 9, 9), by(1, 3, 4)), ids(9, 0, 3, 1, 4, 1)},
		{of(by(0, 3, 3), by(7, 1, 1)), ids(3, 0, 1, 7)},
		{of(by(2, 1, 3, 5, 5, 7, 8)), ids(1, 2, 2, 2, 3, 2, 5, 2, 7, 2, 8, 2)},
		{of(by(7, 1<<30-1, 1<<30)), ids(1<<30-1, 7, 1<<30, 7)},
		{of(by(0, 1, 1, 1<<30, 1<<30), by(1, 1<<30, 1<<30)), ids(1, 0, 1<<30, 0, 1<<30, 1)},
		{ofAll(func(r uint8) api.Times { return by(r, 1, 1) }), ids(1, 0, 1, 1, 1, 2, 1, 3, 1, 4, 1, 5, 1, 6, 1, 7)},
	} {
		if l, e := Ids(c.c); e != api.OK || !slices.Equal(l, c.want) {
			t.Errorf("Ids of %v: %v, %d; want %v", c.c, l, e, c.want)
		}
	}
}

// P8.3, Ids: clocks of MaxOps stamps, of one more, and of very many.
func TestIdsComeToMaxOps(t *testing.T) {
	for _, c := range []struct {
		what string
		c    []api.Times
		want api.Errno
	}{
		{"1023 in one span", of(by(3, 1, 1023)), api.OK}, {"1024 in one span", of(by(3, 1, 1024)), api.OK}, {"1025 in one span", of(by(3, 1, 1025)), api.ErrMany}, {"1024, the last ones", of(by(3, 1<<30-1023, 1<<30)), api.OK}, {"1025, the last ones", of(by(3, 1<<30-1024, 1<<30)), api.ErrMany},
		{"1024 alone", of(alone(3, 1, 1024)), api.OK}, {"1024 alone and one by another one", of(alone(3, 1, 1024), by(4, 1, 1)), api.ErrMany}, {"1024 and one more", of(by(3, 1, 1023, 1025, 1026)), api.ErrMany},
		{"128 by each", ofAll(func(r uint8) api.Times { return by(r, 1, 128) }), api.OK}, {"128 by each and one more", ofAll(func(r uint8) api.Times { return by(r, 1, 128+uint32(r/7)) }), api.ErrMany}, {"1024 by each", ofAll(func(r uint8) api.Times { return by(r, 1, 1024) }), api.ErrMany},
		{"all times", of(by(0, 1, 1<<30)), api.ErrMany}, {"all", ofAll(func(r uint8) api.Times { return by(r, 1, 1<<30) }), api.ErrMany},
		{"1025, with a replica of 8", of(by(0, 1, 1025), by(8, 1, 1)), api.ErrBad}, {"1025, a replica twice", of(by(0, 1, 1025), by(0, 1, 1)), api.ErrBad}, {"1025, and no spans", of(by(0, 1, 1025), by(1)), api.ErrBad}, {"1025, and bad spans", of(by(0, 1, 1025, 1026, 1026)), api.ErrBad}, {"1025 spans", of(alone(0, 1, 1025)), api.ErrBad}, {"all and one more", of(by(0, 1, 1<<30+1)), api.ErrBad},
	} {
		l, e := Ids(c.c)
		if e != c.want || e != api.OK && len(l) != 0 || e == api.OK && (len(l) != many(c.c) || !slices.Equal(l, stamps(c.c))) {
			t.Errorf("Ids of %s: %d stamps, %d; want %d", c.what, len(l), e, c.want)
		}
	}
}

// P8.3, Ids: of all clocks of the edges, and all small ones.
func TestIdsOfAll(t *testing.T) {
	for _, c := range slices.Concat(all(), small(1, 5, 0, 6), small(1<<30-4, 5, 1, 7), small(1, 1, 0, 1, 2, 3, 4, 5, 6, 7)) {
		tells(t, c)
	}
}

// P8.5: a stamp is in a join, if it is in one of both, in what is left, if it is in the first one and not in the other one.
func TestStampsOfJoinAndLess(t *testing.T) {
	l := small(2, 3, 1, 6)
	for _, a := range l {
		for _, b := range l {
			both, _ := Join(a, b)
			left, _ := Less(a, b)
			for at := range uint32(6) {
				for _, r := range []uint8{0, 1, 6, 7} {
					id := api.Id{T: at, R: r}
					if Has(both, id) != (Has(a, id) || Has(b, id)) {
						t.Fatalf("%v, of %v and %v joined: %t", id, a, b, Has(both, id))
					}
					if Has(left, id) != (Has(a, id) && !Has(b, id)) {
						t.Fatalf("%v, of %v without %v: %t", id, a, b, Has(left, id))
					}
				}
			}
			if Check(both) != api.OK || Check(left) != api.OK || Count(both) != Count(left)+Count(b) || Top(both) != max(Top(a), Top(b)) {
				t.Fatalf("%v and %v: %v joined, %v left", a, b, both, left)
			}
		}
	}
}

// P8.5: joining two hangs on no order, and twice is once.
func TestSetsOfTwo(t *testing.T) {
	l := slices.Concat(small(1, 3, 3, 4), good())
	for _, a := range l {
		for _, b := range l {
			both, e := Join(a, b)
			other, f := Join(b, a)
			if e != f || !Same(both, other) {
				t.Fatalf("%v and %v: %v, %d one way, %v, %d the other way", brief(a), brief(b), brief(both), e, brief(other), f)
			}
			if e != api.OK {
				continue
			}
			for _, c := range [][]api.Times{a, b, both, nil} {
				if twice, e := Join(both, c); e != api.OK || !Same(twice, both) {
					t.Fatalf("%v and %v, twice: %v, %d", brief(a), brief(b), brief(twice), e)
				}
				if none, e := Less(c, both); e != api.OK || len(none) != 0 {
					t.Fatalf("%v without %v and %v: %v, %d", brief(c), brief(a), brief(b), brief(none), e)
				}
			}
			if left, e := Less(a, b); e == api.OK {
				if all, e := Join(b, left); e != api.OK || !Same(all, both) {
					t.Fatalf("%v without %v, and these: %v, %d", brief(a), brief(b), brief(all), e)
				}
			}
		}
	}
}

// P8.5: joining three hangs on no order; to take two away, one by one, is to take them away joined.
func TestSetsOfThree(t *testing.T) {
	for _, l := range [][][]api.Times{small(1, 5, 4), small(1, 1, 0, 2, 5, 6, 7), small(1<<30-1, 2, 1, 3)} {
		for _, a := range l {
			for _, b := range l {
				for _, c := range l {
					ab, _ := Join(a, b)
					bc, _ := Join(b, c)
					one, _ := Join(ab, c)
					two, _ := Join(a, bc)
					if !Same(one, two) {
						t.Fatalf("%v, %v and %v: %v, and %v", a, b, c, one, two)
					}
					less, _ := Less(a, b)
					less, _ = Less(less, c)
					if at, _ := Less(a, bc); !Same(less, at) {
						t.Fatalf("%v without %v, %v: %v, and %v", a, b, c, less, at)
					}
				}
			}
		}
	}
}

// P8.5: the stamps of the clock of some are these, each once, whatever order they come in, and as if they were put one by one.
func TestStampsOfTheirClock(t *testing.T) {
	want := of(by(0, 1, 3, 7, 9), by(3, 2, 2, 4, 4, 6, 40), by(7, 1<<30-1, 1<<30))
	in := stamps(want)
	for _, step := range []int{1, 2, 7, 11, 41, 43, 44} {
		var l []api.Id
		var c []api.Times
		for i := range 2 * len(in) {
			a := in[i*step%len(in)]
			l = append(l, a)
			adds(t, c, a)
			c, _ = Add(c, a)
			made, e := Of(l)
			if e != api.OK || !Same(made, c) || !Has(made, a) || Count(made) != len(inOrder(l)) {
				t.Fatalf("%d stamps that came by steps of %d: %v, %d; put one by one %v", len(l), step, made, e, c)
			}
		}
		told, e := Ids(c)
		if e != api.OK || !Same(c, want) || !slices.Equal(told, in) {
			t.Fatalf("stamps that came by steps of %d: %v, of %v, %d", step, told, c, e)
		}
	}
	for _, c := range slices.Concat(good(), small(1, 4, 0, 1)) {
		l, e := Ids(c)
		if e != api.OK {
			continue
		}
		if back, e := Of(l); e != api.OK || !Same(back, c) || len(l) != Count(c) {
			t.Fatalf("the clock of the stamps of %v: %v, %d", brief(c), brief(back), e)
		}
	}
}

// a memory is a clock with others around it, and around the spans of each replica.
type memory struct {
	around []api.Times
	lists  [][]api.Span
}

// lay puts a clock in memory with others around it, that may be written over.
func lay(c []api.Times) (memory, []api.Times) {
	m := memory{around: slices.Concat(of(by(0, 3, 3)), c, of(by(1, 4, 4), by(7, 5, 5)))}
	for i := range c {
		l := slices.Concat(spans(3, 3), c[i].Spans, spans(9, 8, 7, 7))
		m.lists = append(m.lists, l)
		m.around[1+i].Spans = l[1 : 1+len(c[i].Spans)]
	}
	return m, m.around[1 : 1+len(c)]
}

// copied is the same in new memory, to be held against it.
func (m memory) copied() memory {
	was := memory{around: copied(m.around)}
	for _, l := range m.lists {
		was.lists = append(was.lists, slices.Clone(l))
	}
	return was
}

func (m memory) same(was memory) bool {
	return equal(m.around, was.around) && slices.EqualFunc(m.lists, was.lists, slices.Equal[[]api.Span])
}

// spoil writes over all of it.
func (m memory) spoil() {
	for _, l := range m.lists {
		spoilSpans(l)
	}
	spoil(m.around)
}

// spoilSpans writes over all that spans have room for.
func spoilSpans(l []api.Span) {
	l = l[:cap(l)]
	for i := range l {
		l[i] = api.Span{From: 77, To: 7}
	}
}

// spoil writes over all that a clock has room for, its spans too.
func spoil(c []api.Times) {
	c = c[:cap(c)]
	for i := range c {
		spoilSpans(c[i].Spans)
		c[i] = by(99, 7, 77)
	}
}

// P8.4: what is handed in is only read, what lies around it in its memory too, and tells nothing.
func TestOnlyReads(t *testing.T) {
	for _, c := range all() {
		m, a := lay(c)
		was := m.copied()
		checks(t, a)
		counts(t, a)
		tells(t, a)
		for _, id := range ids(0, 0, 1, 0, 3, 0, 4, 1, 6, 2, 2049, 2, 1<<30, 7, 1, 8) {
			has(t, a, id)
			adds(t, a, id)
		}
		for _, q := range [][]api.Times{nil, of(by(0, 1, 1), by(2, 1, 1<<30)), of(by(7, 3, 5)), of(alone(2, 9, 700)), of(by(1)), of(by(1, 1, 1), by(0, 1, 1))} {
			n, b := lay(q)
			then := n.copied()
			joins(t, a, b)
			joins(t, b, a)
			leaves(t, a, b)
			leaves(t, b, a)
			Same(a, b)
			if !n.same(then) {
				t.Fatalf("%v is turned", brief(q))
			}
		}
		joins(t, a, a)
		leaves(t, a, a)
		if !Same(a, c) || !equal(Twin(a), c) || !m.same(was) {
			t.Fatalf("%v is turned", brief(c))
		}
	}
}

// P8.4, Of: stamps are only read, and lie in the order in which they were.
func TestOfOnlyReads(t *testing.T) {
	for _, l := range [][]api.Id{nil, ids(4, 1, 3, 1, 9, 0, 3, 1), stampsBy(1024, 1, 101, 1000, 3), stampsBy(1025, 1, 101, 1000, 3), ids(4, 1, 0, 0, 3, 1), slices.Repeat(ids(2, 2, 1, 2), 512)} {
		around := slices.Concat(ids(9, 9), l, ids(1, 1, 0, 0))
		was := slices.Clone(around)
		in := around[1 : 1+len(l)]
		makes(t, in)
		c, e := Of(in)
		want := copied(c)
		if !slices.Equal(around, was) {
			t.Fatalf("Of %d stamps turned them", len(l))
		}
		for i := range around {
			around[i] = api.Id{T: 77, R: 7}
		}
		if !equal(c, want) {
			t.Fatalf("the clock of %d stamps changes with them", len(l))
		}
		spoil(c)
		if c, f := Of(was[1 : 1+len(l)]); f != e || !equal(c, want) {
			t.Fatalf("the clock of %d stamps changes with another one", len(l))
		}
	}
}

// newMemory calls for what is answered of two clocks: these may be changed behind the call, and the answer by its caller.
func newMemory(t *testing.T, what string, a, b []api.Times, call func(a, b []api.Times) []api.Times) {
	t.Helper()
	m, a := lay(a)
	n, b := lay(b)
	wasM, wasN := m.copied(), n.copied()
	want := copied(call(a, b))
	one, two := call(a, b), call(a, b)
	spoil(one)
	if !equal(two, want) || !m.same(wasM) || !n.same(wasN) {
		t.Fatalf("%s of %v, %v shares memory", what, brief(a), brief(b))
	}
	m.spoil()
	n.spoil()
	if !equal(two, want) {
		t.Fatalf("%s of %v, %v changes with them", what, brief(wasM.around), brief(wasN.around))
	}
	for i := range two[:min(len(two), 9)] {
		spoilSpans(two[i].Spans)
		if !equal(two[i+1:], want[i+1:]) {
			t.Fatalf("two lists of %s of %v, %v share memory", what, brief(wasM.around), brief(wasN.around))
		}
	}
}

// P8.4: what is answered is new memory, the spans in it too, such as is the same as what was handed in too.
func TestAnswersAreNewMemory(t *testing.T) {
	for _, a := range all() {
		newMemory(t, "Twin", a, nil, func(a, _ []api.Times) []api.Times { return Twin(a) })
	}
	for _, a := range good() {
		for _, id := range ids(1, 0, 1, 7, 3, 1, 4, 1, 6, 1, 2049, 2, 1<<30, 7) {
			newMemory(t, "Add", a, nil, func(a, _ []api.Times) []api.Times {
				c, _ := Add(a, id)
				return c
			})
		}
		for _, b := range good() {
			newMemory(t, "Join", a, b, func(a, b []api.Times) []api.Times {
				c, _ := Join(a, b)
				return c
			})
			newMemory(t, "Less", a, b, func(a, b []api.Times) []api.Times {
				c, _ := Less(a, b)
				return c
			})
		}
	}
}

// P8.4: a clock whose replicas share their spans' memory has an answer whose replicas don't.
func TestSharedSpansAreTakenApart(t *testing.T) {
	l := spans(1, 2, 5, 9)
	c := ofAll(func(r uint8) api.Times { return api.Times{R: r, Spans: l} })
	other := of(api.Times{R: 3, Spans: l})
	added, _ := Add(c, api.Id{T: 1, R: 4})
	joined, _ := Join(c, other)
	left, _ := Less(c, other)
	for _, out := range [][]api.Times{Twin(c), added, joined, left} {
		want := copied(out)
		spoilSpans(out[0].Spans)
		if !equal(out[1:], want[1:]) || !slices.Equal(l, spans(1, 2, 5, 9)) {
			t.Fatalf("what is answered of shared spans shares them: %v", out)
		}
	}
}

// P8.4, Ids: what is answered is new memory.
func TestIdsAreNewMemory(t *testing.T) {
	for _, c := range good() {
		one, e := Ids(c)
		two, f := Ids(c)
		was := slices.Clone(two)
		one = one[:cap(one)]
		for i := range one {
			one[i] = api.Id{T: 77, R: 77}
		}
		if e != f || !slices.Equal(two, was) {
			t.Fatalf("Ids of %v share memory", brief(c))
		}
		tells(t, c)
	}
}

// P1, P2: nothing is kept from call to call.
func TestKeepsNothing(t *testing.T) {
	for _, one := range all() {
		for _, two := range [][]api.Times{nil, of(by(0, 9, 9), by(1, 3, 4)), of(by(2, 1, 1<<30)), of(alone(7, 1, 100)), of(by(1, 3, 5), by(0, 1, 1))} {
			Check(one)
			Has(one, api.Id{T: 3})
			Add(one, api.Id{T: 3})
			Join(one, two)
			Less(one, two)
			Count(one)
			Top(one)
			l, _ := Ids(one)
			Of(l)
			Same(one, two)
			Twin(one)
			checks(t, two)
			has(t, two, api.Id{T: 3, R: 1})
			counts(t, two)
			tells(t, two)
			adds(t, two, api.Id{T: 5, R: 1})
			joins(t, two, of(by(0, 3, 3), by(2, 6, 6)))
			leaves(t, two, of(by(0, 9, 9), by(2, 6, 6)))
			makes(t, ids(4, 1, 3, 1, 9, 0))
			if !Same(Twin(two), two) {
				t.Fatalf("behind %v another twin of %v", brief(one), brief(two))
			}
		}
	}
}

// idsFrom makes bytes stamps, two each, nearly all of which may be.
func idsFrom(b []byte) []api.Id {
	var l []api.Id
	for ; len(b) >= 2; b = b[2:] {
		a := api.Id{T: 1 + uint32(b[0]), R: b[1] % 8}
		switch {
		case b[1] == 255:
			a = api.Id{T: uint32(b[0] % 2), R: b[0] % 16}
		case b[1] > 240:
			a.T += 1<<30 - 200
		}
		l = append(l, a)
	}
	return l
}

// clockFrom makes bytes a clock, three each a span, the replica rising by a bit, nearly all of which may be.
func clockFrom(b []byte) []api.Times {
	var c []api.Times
	at := uint32(0)
	for ; len(b) >= 3; b = b[3:] {
		if len(c) == 0 || b[0]%4 == 0 {
			r := b[0] / 4 % 8
			if b[0] < 250 && len(c) > 0 {
				r = c[len(c)-1].R + 1 + r%2
			}
			c, at = append(c, api.Times{R: r}), 0
		}
		if b[0] == 251 {
			continue
		}
		s := api.Span{From: at + 2 + uint32(b[1]%8), To: at + 2 + uint32(b[1]%8) + uint32(b[2]%8)}
		switch {
		case b[1] > 252:
			s.From = at + uint32(b[2]%4)
		case b[1] > 250:
			s.To = 1<<30 - 2 + uint32(b[2]%4)
		}
		x := &c[len(c)-1]
		x.Spans = append(x.Spans, s)
		at = s.To
	}
	return c
}

// P1, P8.2, P8.4, P8.5: whatever stamps, together, and one by one.
func FuzzOf(f *testing.F) {
	f.Add([]byte{})
	f.Add([]byte{4, 1, 3, 1, 9, 0})
	f.Add([]byte{4, 1, 4, 1, 6, 1, 5, 1})
	f.Add([]byte{0, 255})
	f.Add([]byte{199, 241, 198, 249, 200, 241})
	f.Add(make([]byte, 2048))
	f.Add(make([]byte, 2050))
	f.Fuzz(func(t *testing.T, b []byte) {
		l := idsFrom(b)
		was := slices.Clone(l)
		makes(t, l)
		made, e := Of(l)
		if !slices.Equal(l, was) {
			t.Fatalf("Of %v turned them", was)
		}
		var c []api.Times
		for _, a := range l[:min(len(l), 200)] {
			adds(t, c, a)
			if next, e := Add(c, a); e == api.OK {
				c = next
			}
		}
		checks(t, c)
		counts(t, c)
		tells(t, c)
		if e == api.OK && len(l) <= 200 && !Same(c, made) {
			t.Fatalf("Of %v: %v; one by one %v", l, brief(made), brief(c))
		}
	})
}

// P1, P8.1, P8.3, P8.4, P8.5: whatever two clocks.
func FuzzJoin(f *testing.F) {
	f.Add([]byte{}, []byte{0, 0, 0})
	f.Add([]byte{0, 1, 1, 4, 3, 0}, []byte{1, 0, 2, 4, 4, 4})
	f.Add([]byte{28, 0, 0, 4, 0, 0}, []byte{28, 251, 2})
	f.Add([]byte{1, 253, 0}, []byte{251, 0, 0})
	f.Add([]byte{16, 0, 1, 252, 0, 1}, []byte{1, 9, 9, 1, 9, 9})
	f.Add(slices.Repeat([]byte{1, 0, 0}, 1024), []byte{1, 251, 2})
	f.Add([]byte{1, 251, 2}, slices.Repeat([]byte{1, 1, 0}, 1024))
	f.Fuzz(func(t *testing.T, x, y []byte) {
		a, b := clockFrom(x), clockFrom(y)
		wasA, wasB := copied(a), copied(b)
		for _, two := range [][2][]api.Times{{a, b}, {b, a}, {a, a}} {
			checks(t, two[0])
			counts(t, two[0])
			tells(t, two[0])
			has(t, two[0], api.Id{T: 5, R: 1})
			joins(t, two[0], two[1])
			leaves(t, two[0], two[1])
		}
		if !Same(a, wasA) || !Same(b, wasB) || !Same(Twin(a), a) {
			t.Fatalf("%v and %v are turned", brief(wasA), brief(wasB))
		}
		both, e := Join(a, b)
		left, f := Less(a, b)
		if e != api.OK || f != api.OK {
			return
		}
		if all, e := Join(left, b); e != api.OK || !Same(all, both) || Count(both) != Count(left)+Count(b) || Top(both) != max(Top(a), Top(b)) {
			t.Fatalf("%v without %v, and these: %v, %d; want %v", brief(a), brief(b), brief(all), e, brief(both))
		}
	})
}

// The chapter's examples.
func TestExamples(t *testing.T) {
	told := func(what string, c []api.Times, e api.Errno, want []api.Times) {
		t.Helper()
		if e != api.OK || !Same(c, want) {
			t.Errorf("%s: %v, %d; want %v", what, c, e, want)
		}
	}
	c, e := Of(ids(4, 1, 3, 1, 9, 0))
	told("Of three stamps", c, e, of(by(0, 9, 9), by(1, 3, 4)))
	if Top(c) != 9 || Count(c) != 3 {
		t.Errorf("Top, Count of it: %d, %d", Top(c), Count(c))
	}
	c, e = Add(of(by(1, 3, 5)), api.Id{T: 6, R: 1})
	told("Add of 6 by 1", c, e, of(by(1, 3, 6)))
	c, e = Add(of(by(1, 3, 5)), api.Id{T: 6})
	told("Add of 6 by 0", c, e, of(by(0, 6, 6), by(1, 3, 5)))
	c, e = Join(of(by(0, 1, 2)), of(by(0, 3, 3), by(2, 7, 7)))
	told("Join", c, e, of(by(0, 1, 3), by(2, 7, 7)))
	c, e = Less(of(by(0, 1, 9), by(1, 1, 1)), of(by(0, 2, 9), by(1, 1, 5)))
	told("Less", c, e, of(by(0, 1, 1)))
	for _, c := range [][]api.Times{of(by(1, 3, 5), by(0, 1, 1)), of(by(1)), of(by(8, 1, 1))} {
		if e := Check(c); e != api.ErrBad {
			t.Errorf("Check of %v: %d", c, e)
		}
	}
	c, e = Add(nil, api.Id{})
	refused(t, "Add of the zero stamp", c, e, api.ErrBad)
}
