package bag

import (
	"cmp"
	"math"
	"slices"
	"testing"

	"octavo/api"
	"octavo/clock"
	"octavo/op"
)

// run is so many stamps by r from t on.
func run(t uint32, r uint8, many int) api.Run {
	return api.Run{T: t, R: r, Many: many}
}

// at is a place of some runs.
func at(l ...api.Run) []api.Run {
	return l
}

// by is a stamp.
func by(t uint32, r uint8) api.Id {
	return api.Id{T: t, R: r}
}

// of is a bag of some operations.
func of(l ...api.Op) []api.Op {
	return l
}

// endOf is the last stamp of a place that has one.
func endOf(p []api.Run) api.Id {
	r := p[len(p)-1]
	return by(r.T+uint32(r.Many)-1, r.R)
}

func insert(point int, p ...api.Run) api.Op {
	return api.Op{Kind: 1, Id: endOf(p), At: p, Point: point}
}

func mark(p ...api.Run) api.Op {
	return api.Op{Kind: 2, Id: endOf(p), At: p}
}

func without(t uint32, r uint8, p ...api.Run) api.Op {
	return api.Op{Kind: 3, Id: by(t, r), At: p}
}

func join(t uint32, r uint8, p ...api.Run) api.Op {
	return api.Op{Kind: 4, Id: by(t, r), At: p}
}

// one is a mark alone, the shortest that there is of a stamp.
func one(t uint32, r uint8) api.Op {
	return mark(run(t, r, 1))
}

// ones is a mark of each two numbers, a time and a replica.
func ones(l ...uint32) []api.Op {
	var out []api.Op
	for i := 0; i < len(l); i += 2 {
		out = append(out, one(l[i], uint8(l[i+1])))
	}
	return out
}

// unlikes is how many operations unlike has of one stamp.
const unlikes = 9

// unlike is the operation i of a stamp, whose time is from 4 on: no two of them are the same.
func unlike(id api.Id, i int) api.Op {
	own, behind := run(id.T, id.R, 1), run(2, 5, 1)
	switch i % unlikes {
	case 0:
		return insert(97, own)
	case 1:
		return insert(0x20ac, own)
	case 2:
		return mark(own)
	case 3:
		return insert(97, behind, own)
	case 4:
		return mark(behind, own)
	case 5:
		return without(id.T, id.R, run(1, 0, 1))
	case 6:
		return without(id.T, id.R, run(1, 0, 1), behind)
	case 7:
		return join(id.T, id.R, behind)
	}
	return join(id.T, id.R, run(1, 0, 1))
}

// many is so many operations of all kinds, whose stamps rise, with gaps and without, by one replica and by more.
func many(n int) []api.Op {
	var l []api.Op
	id := by(3, 7)
	for i := range n {
		switch i % 7 {
		case 0, 3, 4:
			id = by(id.T+1, id.R)
		case 1, 5:
			id = by(id.T+2, uint8(i%8))
		default:
			id = by(id.T, id.R+1)
			if id.R > 7 {
				id = by(id.T+1, 0)
			}
		}
		l = append(l, unlike(id, i))
	}
	return l
}

// before is whether one stamp is less than another one, by the words of chapter 5.
func before(a, b api.Id) bool {
	return a.T < b.T || a.T == b.T && a.R < b.R
}

// mayBe is what bags that may be are, by the chapter's words.
func mayBe(l []api.Op) bool {
	for i, o := range l {
		if op.Check(o) != api.OK || i > 0 && !before(l[i-1].Id, o.Id) {
			return false
		}
	}
	return len(l) <= 1024
}

// wrong is whether one of some bags may not be.
func wrong(l ...[]api.Op) bool {
	return slices.ContainsFunc(l, func(x []api.Op) bool { return !mayBe(x) })
}

// findInWords is what Find has to answer.
func findInWords(l []api.Op, id api.Id) (api.Op, bool) {
	i := slices.IndexFunc(l, func(o api.Op) bool { return o.Id == id })
	if i < 0 || wrong(l) {
		return api.Op{}, false
	}
	return l[i], true
}

// joinInWords is what Join has to answer.
func joinInWords(a, b []api.Op) ([]api.Op, api.Errno) {
	if wrong(a, b) {
		return nil, api.ErrBad
	}
	all := map[api.Id]api.Op{}
	for _, o := range slices.Concat(b, a) {
		all[o.Id] = o
	}
	if len(all) > 1024 {
		return nil, api.ErrFull
	}
	var out []api.Op
	for _, o := range all {
		out = append(out, o)
	}
	slices.SortFunc(out, func(x, y api.Op) int { return cmp.Or(cmp.Compare(x.Id.T, y.Id.T), cmp.Compare(x.Id.R, y.Id.R)) })
	return out, api.OK
}

// addInWords is what Add has to answer.
func addInWords(l []api.Op, o api.Op) ([]api.Op, api.Errno) {
	return joinInWords(l, of(o))
}

// among is whether a stamp is one of those of a clock.
func among(c []api.Times, id api.Id) bool {
	for _, x := range c {
		for _, s := range x.Spans {
			if x.R == id.R && s.From <= id.T && id.T <= s.To {
				return true
			}
		}
	}
	return false
}

// lessInWords is what Less has to answer.
func lessInWords(l []api.Op, c []api.Times) ([]api.Op, api.Errno) {
	if wrong(l) || clock.Check(c) != api.OK {
		return nil, api.ErrBad
	}
	return slices.DeleteFunc(slices.Clone(l), func(o api.Op) bool { return among(c, o.Id) }), api.OK
}

// clockInWords is the clock of the stamps of a bag that may be.
func clockInWords(l []api.Op) []api.Times {
	var c []api.Times
	for r := range uint8(8) {
		var spans []api.Span
		for _, o := range l {
			end := len(spans) - 1
			switch {
			case o.Id.R != r:
			case end >= 0 && spans[end].To+1 == o.Id.T:
				spans[end].To++
			default:
				spans = append(spans, api.Span{From: o.Id.T, To: o.Id.T})
			}
		}
		if len(spans) > 0 {
			c = append(c, api.Times{R: r, Spans: spans})
		}
	}
	return c
}

// equalOp is whether two operations are the same in all fields.
func equalOp(a, b api.Op) bool {
	return a.Kind == b.Kind && a.Id == b.Id && a.Point == b.Point && slices.Equal(a.At, b.At)
}

// equal is whether two bags are.
func equal(a, b []api.Op) bool {
	return slices.EqualFunc(a, b, equalOp)
}

// copied is a bag in new memory.
func copied(l []api.Op) []api.Op {
	var out []api.Op
	for _, o := range l {
		o.At = append([]api.Run{}, o.At...)
		out = append(out, o)
	}
	return out
}

// brief is as much of a bag as is short enough to be told.
func brief(l []api.Op) []api.Op {
	l = slices.Clone(l[:min(len(l), 5)])
	for i, o := range l {
		l[i].At = o.At[:min(len(o.At), 5)]
	}
	return l
}

func checks(t *testing.T, l []api.Op) {
	t.Helper()
	want := api.OK
	if !mayBe(l) {
		want = api.ErrBad
	}
	if e := Check(l); e != want {
		t.Fatalf("Check of %d, %v: %d; want %d", len(l), brief(l), e, want)
	}
}

func finds(t *testing.T, l []api.Op, id api.Id) {
	t.Helper()
	want, there := findInWords(l, id)
	if o, is := Find(l, id); is != there || !equalOp(o, want) {
		t.Fatalf("Find of %v in %d, %v: %v, %t; want %v, %t", id, len(l), brief(l), o, is, want, there)
	}
}

// answers asks whether a bag and an error are those that are wanted, and whether the bag may be.
func answers(t *testing.T, call string, l []api.Op, e api.Errno, want []api.Op, refusal api.Errno) {
	t.Helper()
	if e != refusal || !equal(l, want) || !mayBe(l) {
		t.Fatalf("%s: %d, %v, %d; want %d, %v, %d", call, len(l), brief(l), e, len(want), brief(want), refusal)
	}
}

func adds(t *testing.T, l []api.Op, o api.Op) {
	t.Helper()
	want, refusal := addInWords(l, o)
	x, e := Add(l, o)
	answers(t, "Add", x, e, want, refusal)
}

func joins(t *testing.T, a, b []api.Op) {
	t.Helper()
	want, refusal := joinInWords(a, b)
	x, e := Join(a, b)
	answers(t, "Join", x, e, want, refusal)
}

func leaves(t *testing.T, l []api.Op, c []api.Times) {
	t.Helper()
	want, refusal := lessInWords(l, c)
	x, e := Less(l, c)
	answers(t, "Less", x, e, want, refusal)
}

func tells(t *testing.T, l []api.Op) {
	t.Helper()
	want, refusal := clockInWords(l), api.OK
	if wrong(l) {
		want, refusal = nil, api.ErrBad
	}
	if c, e := Ids(l); e != refusal || !clock.Same(c, want) {
		t.Fatalf("Ids of %d, %v: %v, %d; want %v, %d", len(l), brief(l), c, e, want, refusal)
	}
}

// refused asks whether a call answered an error, and nothing beside it.
func refused(t *testing.T, call string, l []api.Op, e, want api.Errno) {
	t.Helper()
	if e != want || len(l) != 0 {
		t.Errorf("%s: %d, %v, %d; want none, %d", call, len(l), brief(l), e, want)
	}
}

// refusesAll asks whether all calls refuse a bag, whatever else they are given: an operation, another bag, a clock.
func refusesAll(t *testing.T, what string, l []api.Op) {
	t.Helper()
	if e := Check(l); e != api.ErrBad {
		t.Errorf("Check of %s: %d; want ErrBad", what, e)
	}
	for _, o := range append(slices.Clone(l[:min(len(l), 20)]), one(1, 0), one(1<<30, 7)) {
		if x, is := Find(l, o.Id); is || !equalOp(x, api.Op{}) {
			t.Errorf("Find of %v in %s: %v, %t; want none", o.Id, what, x, is)
		}
		x, e := Add(l, o)
		refused(t, "Add to "+what, x, e, api.ErrBad)
	}
	for _, b := range [][]api.Op{nil, ones(1, 0), many(1024), many(1025), l} {
		x, e := Join(l, b)
		refused(t, "Join of "+what, x, e, api.ErrBad)
		x, e = Join(b, l)
		refused(t, "Join with "+what, x, e, api.ErrBad)
	}
	for _, c := range clocks() {
		x, e := Less(l, c)
		refused(t, "Less of "+what, x, e, api.ErrBad)
	}
	if c, e := Ids(l); e != api.ErrBad || len(c) != 0 {
		t.Errorf("Ids of %s: %v, %d; want ErrBad", what, c, e)
	}
}

// bad is operations that may not be, whose stamps are from 4 on, or may not be.
func bad() []api.Op {
	l := []api.Op{
		{}, {Kind: 1, Id: by(9, 0)}, {Kind: 2, Id: by(9, 0), At: at()}, {Kind: 3, Id: by(9, 0)}, {Kind: 255, Id: by(math.MaxUint32, 255), Point: math.MinInt},
		mark(run(0, 0, 1)), mark(run(9, 8, 1)), mark(run(9, 255, 1)), mark(run(1<<30+1, 0, 1)), mark(run(math.MaxUint32, 0, 1)), mark(run(1<<30, 0, 2)),
		mark(run(9, 0, 0)), mark(run(9, 0, -1)), mark(run(9, 0, math.MinInt)), mark(run(9, 0, math.MaxInt)), mark(run(1, 0, 4097)), mark(run(9, 0, 1<<32+1)),
		mark(run(8, 0, 1), run(9, 0, 1)), mark(run(8, 0, 2), run(9, 1, 1)), mark(run(9, 1, 1), run(9, 1, 1)), mark(run(10, 1, 1), run(9, 1, 1)),
		insert(-1, run(9, 0, 1)), insert(0xd800, run(9, 0, 1)), insert(0xdfff, run(9, 0, 1)), insert(0x110000, run(9, 0, 1)), insert(1<<32+97, run(9, 0, 1)),
		without(9, 0, run(9, 0, 1)), without(9, 1, run(9, 0, 1)), without(9, 0, run(8, 0, 9)), join(9, 0, run(9, 0, 1)), join(9, 7, run(9, 0, 1)), without(9, 8, run(1, 0, 1)), without(1<<30+1, 0, run(1, 0, 1)),
	}
	for i := range unlikes {
		for _, turn := range []func(o *api.Op){
			func(o *api.Op) { o.Kind = 0 }, func(o *api.Op) { o.Kind = 5 }, func(o *api.Op) { o.Kind += 128 },
			func(o *api.Op) { o.Id.R += 8 }, func(o *api.Op) { o.Id = by(0, 0) }, func(o *api.Op) { o.Id = by(1<<30+1, 0) }, func(o *api.Op) { o.Id.T += 1 << 31 },
			func(o *api.Op) { o.Point = 1 << 40 }, func(o *api.Op) { o.At = nil }, func(o *api.Op) { o.At = append(o.At, o.At[0]) },
		} {
			o := unlike(by(9, 3), i)
			turn(&o)
			l = append(l, o)
		}
	}
	return l
}

// wrongs is bags that may not be, and what they are.
func wrongs() map[string][]api.Op {
	swapped := func(l []api.Op, i, j int) []api.Op {
		l[i], l[j] = l[j], l[i]
		return l
	}
	return map[string][]api.Op{
		"one more than may be":             many(1025),
		"two more than may be":             many(1026),
		"twice as many as may be":          many(2048),
		"very many":                        many(1 << 16),
		"very many of nothing":             make([]api.Op, 1<<16),
		"an operation of nothing":          of(api.Op{}),
		"one twice":                        ones(2, 0, 2, 0),
		"two unlike ones of a stamp":       of(unlike(by(9, 1), 0), unlike(by(9, 1), 2)),
		"one twice, ahead of another one":  ones(2, 0, 2, 0, 3, 0),
		"one twice, behind another one":    ones(1, 0, 2, 0, 2, 0),
		"one twice, with one between":      ones(2, 0, 3, 0, 2, 0),
		"a time less":                      ones(3, 0, 2, 1),
		"a time less, by the same one":     ones(3, 1, 2, 1),
		"a replica less":                   ones(3, 1, 3, 0),
		"the last time ahead":              ones(1<<30, 0, 1, 7),
		"the first ones in another order":  swapped(many(1024), 0, 1),
		"those in the middle in another":   swapped(many(1024), 511, 512),
		"the last ones in another order":   swapped(many(1024), 1022, 1023),
		"the last one ahead of all":        append(of(many(9)[8]), many(8)...),
		"the first one behind all":         append(many(9)[1:], many(9)[0]),
		"all in another order":             func() []api.Op { l := many(9); slices.Reverse(l); return l }(),
		"the last one twice, of very many": append(many(1023), many(1023)[1022]),
	}
}

// good is bags of many lengths and kinds, all of which may be.
func good() [][]api.Op {
	l := [][]api.Op{
		nil, {}, ones(1, 0), ones(1, 7), ones(1<<30, 0), ones(1<<30, 7), ones(1, 0, 1<<30, 7), ones(2, 0, 5, 0, 5, 1, 9, 3), ones(1, 0, 1, 1, 1, 2, 1, 3, 1, 4, 1, 5, 1, 6, 1, 7, 2, 0), ones(1<<24, 1, 1<<24+1, 0, 1<<30-1, 7, 1<<30, 0),
		of(insert(97, run(1, 0, 4096))), of(mark(run(1<<30-4095, 3, 4096))), of(without(9, 1, run(1, 0, 3)), join(1<<30, 7, run(1, 0, 1))), of(insert(0x10ffff, run(1, 0, 2), run(4, 0, 1), run(9, 7, 1)), mark(run(9, 7, 2))),
	}
	for i := range unlikes {
		l = append(l, of(unlike(by(9, 1), i)), of(unlike(by(4, 0), i), unlike(by(9, 1), i+1)), of(unlike(by(9, 1), i), unlike(by(1<<30, 1), i+2)))
	}
	for n := 1; n < 1024; n += 1 + n {
		l = append(l, many(n))
	}
	return append(l, many(1023), many(1024), many(1500)[476:])
}

// some is bags that may be, not too long, and such as may not be.
func some() [][]api.Op {
	l := good()[:30]
	for _, o := range bad() {
		l = append(l, of(o), of(one(1, 0), o), of(o, one(1<<30, 7)))
	}
	return append(l, many(60), ones(3, 0, 3, 0), ones(3, 1, 3, 0), slices.Repeat(ones(3, 1), 9))
}

// times is a replica's, from each even one of numbers to the one behind it.
func times(r uint8, l ...uint32) api.Times {
	x := api.Times{R: r}
	for i := 0; i < len(l); i += 2 {
		x.Spans = append(x.Spans, api.Span{From: l[i], To: l[i+1]})
	}
	return x
}

// clocks is clocks of none, of some, of all, and such as may not be.
func clocks() [][]api.Times {
	var all [][]api.Times
	whole, odd := []api.Times{}, []api.Times{}
	for r := range uint8(8) {
		whole = append(whole, times(r, 1, 1<<30))
		x := times(r)
		for t := uint32(1); t < 400; t += 2 {
			x.Spans = append(x.Spans, api.Span{From: t, To: t})
		}
		odd = append(odd, x)
		all = append(all, []api.Times{times(r, 1, 1<<30)}, []api.Times{times(r, 3, 3, 9, 12)}, []api.Times{times(r, 1<<30, 1<<30)})
	}
	all = append(all, nil, []api.Times{}, whole, odd, odd[3:5], whole[:7], whole[1:], []api.Times{times(0, 3, 5), times(3, 1, 1, 4, 20), times(7, 9, 9)})
	return append(all, badClocks()...)
}

// badClocks is clocks that may not be.
func badClocks() [][]api.Times {
	return [][]api.Times{
		{{}}, {times(1)}, {times(8, 1, 1)}, {times(255, 1, 1)}, {times(0, 0, 1)}, {times(0, 5, 4)}, {times(0, 1, 1<<30+1)}, {times(0, 1, math.MaxUint32)}, {times(0, 3, 5, 6, 7)}, {times(0, 6, 7, 3, 4)}, {times(0, 3, 3, 3, 3)},
		{times(1, 3, 5), times(0, 1, 1)}, {times(1, 3, 5), times(1, 7, 7)}, {times(0, 1, 1), times(1)}, {times(0, 1, 1), times(8, 1, 1)}, {times(0, 1, 1<<30), times(1, 0, 0)}, make([]api.Times, 1<<10), {{R: 0, Spans: make([]api.Span, 1<<12)}},
	}
}

// stampsAbout is stamps of the edges, and those of a bag's operations, with those right beside them.
func stampsAbout(l []api.Op) []api.Id {
	out := []api.Id{by(0, 0), by(0, 1), by(0, 255), by(1, 0), by(1, 7), by(1, 8), by(1<<30, 0), by(1<<30, 7), by(1<<30, 8), by(1<<30+1, 0), by(1<<31, 0), by(math.MaxUint32, 0), by(math.MaxUint32, 255)}
	for i, o := range l {
		if len(l) > 100 && i > 9 && i < len(l)-9 && i%37 != 0 {
			continue
		}
		id := o.Id
		out = append(out, id, by(id.T-1, id.R), by(id.T+1, id.R), by(id.T, id.R-1), by(id.T, id.R+1), by(id.T, id.R+8), by(id.T+1<<31, id.R))
	}
	return out
}

// P11.1, Check: the edges that the chapter names, one by one.
func TestCheckTellsKnown(t *testing.T) {
	for _, c := range []struct {
		what string
		l    []api.Op
		want api.Errno
	}{
		{"none", nil, api.OK},
		{"none that is no nil", of(), api.OK},
		{"one", ones(3, 1), api.OK},
		{"one by the last replica", ones(1<<30, 7), api.OK},
		{"one by no replica", ones(1, 8), api.ErrBad},
		{"one of no time", ones(0, 0), api.ErrBad},
		{"one of a time too late", ones(1<<30+1, 0), api.ErrBad},
		{"two that rise", ones(3, 1, 4, 0), api.OK},
		{"two that rise by the replica", ones(3, 1, 3, 2), api.OK},
		{"two of one stamp", ones(3, 1, 3, 1), api.ErrBad},
		{"two that fall", ones(4, 0, 3, 1), api.ErrBad},
		{"two that fall by the replica", ones(3, 2, 3, 1), api.ErrBad},
		{"two unlike ones of one stamp", of(mark(run(3, 1, 1)), insert(97, run(3, 1, 1))), api.ErrBad},
		{"a child behind its parent", of(insert(97, run(1, 0, 1)), insert(98, run(1, 0, 2))), api.OK},
		{"a child ahead of its parent", of(insert(98, run(1, 0, 2)), insert(97, run(1, 0, 1))), api.ErrBad},
		{"a child without its parent", of(insert(98, run(1, 0, 2))), api.OK},
		{"a delete behind what it takes away", of(insert(97, run(1, 0, 1)), without(2, 0, run(1, 0, 1))), api.OK},
		{"a delete ahead of what it takes away", of(without(2, 0, run(1, 0, 1)), insert(97, run(1, 0, 1))), api.ErrBad},
		{"a delete as old as what it takes away", of(insert(97, run(1, 0, 1)), without(1, 1, run(1, 0, 1))), api.ErrBad},
		{"two deletes of one", of(without(2, 0, run(1, 0, 1)), without(2, 1, run(1, 0, 1))), api.OK},
		{"two marks at places that fall, of stamps that rise", of(mark(run(1, 0, 1)), mark(run(2, 0, 1))), api.OK},
		{"all kinds", of(insert(97, run(1, 0, 1)), mark(run(1, 0, 2)), without(3, 0, run(1, 0, 1)), join(4, 0, run(1, 0, 2))), api.OK},
		{"all kinds, and none of them", of(insert(97, run(1, 0, 1)), mark(run(1, 0, 2)), without(3, 0, run(1, 0, 1)), join(4, 0, run(1, 0, 2)), api.Op{Kind: 5, Id: by(5, 0), At: at(run(1, 0, 1))}), api.ErrBad},
	} {
		if e := Check(c.l); e != c.want {
			t.Errorf("Check of %s: %d; want %d", c.what, e, c.want)
		}
		checks(t, c.l)
		tells(t, c.l)
	}
}

// P11.1, Check: bags of none up to more than may be.
func TestCheckTellsHowMany(t *testing.T) {
	for _, n := range []int{0, 1, 2, 3, 255, 256, 1022, 1023, 1024} {
		for _, l := range [][]api.Op{many(n), many(n + 300)[300:]} {
			if e := Check(l); len(l) != n || e != api.OK {
				t.Errorf("Check of %d: %d", len(l), e)
			}
		}
	}
	for _, n := range []int{1025, 1026, 2047, 2048, 1 << 16} {
		if e := Check(many(n)); e != api.ErrBad {
			t.Errorf("Check of %d: %d; want ErrBad", n, e)
		}
	}
}

// P1, P11.1, P11.2: each call refuses bags that may not be, and answers nothing beside the error.
func TestAllRefuseWrongs(t *testing.T) {
	for what, l := range wrongs() {
		refusesAll(t, what, l)
	}
}

// P11.1, P11.2: an operation that may not be, first, in the middle, last, or alone, in a bag whose stamps rise but for it.
func TestAllRefuseBadOperations(t *testing.T) {
	for _, o := range bad() {
		if op.Check(o) != api.ErrBad {
			t.Fatalf("%v may be", o)
		}
		l := ones(2, 1, 3, 0, 1<<29, 1, 1<<30-1, 6, 1<<30, 7)
		refusesAll(t, "one that may not be", of(o))
		for i := range len(l) + 1 {
			checks(t, slices.Insert(slices.Clone(l), i, o))
		}
		refusesAll(t, "one that may not be ahead", append(of(o), l...))
		refusesAll(t, "one that may not be in the middle", slices.Insert(slices.Clone(l), 2, o))
		refusesAll(t, "one that may not be at the end", append(slices.Clone(l), o))
	}
}

// P11.1, P11.2: each operation of a bag is turned, so that it may not be where all stamps rise.
func TestAllRefuseTurnedOperations(t *testing.T) {
	for _, n := range []int{1, 2, 3, 9, 1024} {
		for _, i := range []int{0, n / 2, n - 1} {
			for _, turn := range []func(o *api.Op){func(o *api.Op) { o.Kind = 0 }, func(o *api.Op) { o.Kind = 5 }, func(o *api.Op) { o.Point = -1 }, func(o *api.Op) { o.At = nil }} {
				l := many(n)
				turn(&l[i])
				refusesAll(t, "one that is turned", l)
			}
		}
	}
}

// P11.1, Check: each two beside each other of a bag change places; each one is there twice; each is an unlike one of the stamp ahead.
func TestCheckTellsOrder(t *testing.T) {
	for _, n := range []int{2, 3, 9, 60, 1024} {
		l := many(n)
		for i := range n - 1 {
			if n > 100 && i > 9 && i < n-9 && i%31 != 0 {
				continue
			}
			swapped, twice, same := slices.Clone(l), slices.Clone(l), slices.Clone(l)
			swapped[i], swapped[i+1] = l[i+1], l[i]
			twice[i+1] = l[i]
			same[i] = unlike(l[i+1].Id, i+1+unlikes/2)
			for _, x := range [][]api.Op{swapped, twice, same} {
				if e := Check(x); e != api.ErrBad {
					t.Fatalf("Check of %d, those at %d in no order: %d; want ErrBad", n, i, e)
				}
				checks(t, x)
			}
		}
	}
}

// P11.1, Check: all bags of three about each stamp of a few.
func TestCheckTellsSmall(t *testing.T) {
	var l []api.Op
	for at := range uint32(4) {
		for _, r := range []uint8{0, 1, 7, 8} {
			l = append(l, one(at, r))
		}
	}
	for _, a := range l {
		for _, b := range l {
			for _, c := range l {
				checks(t, of(a, b, c))
				tells(t, of(a, b, c))
			}
		}
	}
}

// P11.1, Find: each operation that there is, and no other one.
func TestFindTellsAll(t *testing.T) {
	for _, l := range good() {
		for _, o := range l {
			if x, is := Find(l, o.Id); !is || !equalOp(x, o) {
				t.Fatalf("Find of %v in %d, %v: %v, %t", o.Id, len(l), brief(l), x, is)
			}
		}
		for _, id := range stampsAbout(l) {
			finds(t, l, id)
		}
	}
	for _, l := range some() {
		for _, id := range stampsAbout(l) {
			finds(t, l, id)
		}
	}
}

// P11.1, Find: what is known, one by one.
func TestFindTellsKnown(t *testing.T) {
	l := of(insert(97, run(1, 0, 1)), mark(run(1, 0, 2)), without(5, 1, run(1, 0, 1)), join(5, 2, run(1, 0, 2)))
	for i, id := range []api.Id{by(1, 0), by(2, 0), by(5, 1), by(5, 2)} {
		if o, is := Find(l, id); !is || !equalOp(o, l[i]) {
			t.Errorf("Find of %v: %v, %t; want %v", id, o, is, l[i])
		}
	}
	for _, id := range []api.Id{by(0, 0), by(1, 1), by(2, 1), by(3, 0), by(4, 7), by(5, 0), by(5, 3), by(6, 1), by(1, 8), by(1<<30, 7), by(math.MaxUint32, 255)} {
		if o, is := Find(l, id); is || !equalOp(o, api.Op{}) {
			t.Errorf("Find of %v: %v, %t; want none", id, o, is)
		}
	}
	if o, is := Find(of(api.Op{}), by(0, 0)); is || !equalOp(o, api.Op{}) {
		t.Errorf("Find of the zero stamp in a bag of nothing: %v, %t; want none", o, is)
	}
	// What stands ahead of the one that is at fault isn't found, either.
	for _, b := range [][]api.Op{append(copied(l), l[3]), append(copied(l), l[0]), append(of(l[1]), l...), append(copied(l), api.Op{Kind: 2, Id: by(9, 0)}), append(copied(l), mark(run(1<<30+1, 0, 1)))} {
		for _, id := range []api.Id{by(1, 0), by(2, 0), by(5, 1), by(5, 2)} {
			if o, is := Find(b, id); is || !equalOp(o, api.Op{}) {
				t.Errorf("Find of %v in one that may not be: %v, %t; want none", id, o, is)
			}
		}
	}
}

// P11.1, Same and Twin: of any ones, such as may not be too.
func TestSameAndTwin(t *testing.T) {
	l := some()
	for i, a := range l {
		for _, b := range l {
			if want := equal(a, b); Same(a, b) != want || Same(b, a) != want {
				t.Fatalf("Same of %v, %v: %t", brief(a), brief(b), !want)
			}
		}
		b := Twin(a)
		if !equal(a, b) || !Same(a, b) || !Same(b, a) {
			t.Fatalf("Twin of %v: %v", brief(a), brief(b))
		}
		if i%3 == 0 || len(a) > 2 {
			turned(t, a)
		}
	}
	for _, l := range append(good(), many(1025), many(1<<14), make([]api.Op, 3000)) {
		b := Twin(l)
		if !equal(b, l) || !Same(b, l) || !Same(l, l) {
			t.Fatalf("the twin of %d is another one", len(l))
		}
	}
	if !Same(nil, of()) || !Same(of(), nil) || !Same(Twin(nil), of()) || len(Twin(of())) != 0 {
		t.Error("none and nil are not the same")
	}
	if a, b := of(api.Op{Kind: 9, At: nil}), of(api.Op{Kind: 9, At: at()}); !Same(a, b) || !Same(b, a) || !Same(a, Twin(b)) {
		t.Error("the beginning without runs and nil are not the same")
	}
}

// turned asks whether a bag is the same with one thing changed.
func turned(t *testing.T, l []api.Op) {
	t.Helper()
	unlike := func(b []api.Op) {
		t.Helper()
		if Same(l, b) || Same(b, l) || Same(Twin(l), Twin(b)) {
			t.Fatalf("Same of %v, and of that with one thing turned, %v", brief(l), brief(b))
		}
	}
	n := len(l)
	unlike(append(copied(l), one(1<<30, 7)))
	unlike(append(copied(l), api.Op{}))
	unlike(append(of(api.Op{}), l...))
	if n == 0 {
		return
	}
	unlike(nil)
	unlike(copied(l)[:n-1])
	unlike(append(copied(l), l[n-1]))
	for _, i := range []int{0, n / 2, n - 1} {
		for _, turn := range []func(o *api.Op){
			func(o *api.Op) { o.Kind++ }, func(o *api.Op) { o.Kind ^= 128 }, func(o *api.Op) { o.Id.T++ }, func(o *api.Op) { o.Id.T ^= 1 << 31 }, func(o *api.Op) { o.Id.R++ }, func(o *api.Op) { o.Id.R ^= 128 },
			func(o *api.Op) { o.Point++ }, func(o *api.Op) { o.Point ^= 1 << 40 }, func(o *api.Op) { o.Point = -1 - o.Point }, func(o *api.Op) { o.At = append(o.At, api.Run{}) },
		} {
			b := copied(l)
			turn(&b[i])
			unlike(b)
		}
		for k := range l[i].At {
			for _, turn := range []func(r *api.Run){func(r *api.Run) { r.T++ }, func(r *api.Run) { r.R ^= 1 }, func(r *api.Run) { r.Many-- }} {
				b := copied(l)
				turn(&b[i].At[k])
				unlike(b)
			}
		}
	}
}

// P11.2, Add: what is known, one by one.
func TestAddTellsKnown(t *testing.T) {
	a, b := insert(97, run(3, 1, 1)), insert(98, run(3, 1, 1))
	for _, c := range []struct {
		what string
		l    []api.Op
		o    api.Op
		want []api.Op
	}{
		{"to none", nil, a, of(a)},
		{"to none that is no nil", of(), a, of(a)},
		{"ahead, by the time", ones(4, 0), a, of(a, one(4, 0))},
		{"ahead, by the replica", ones(3, 2), a, of(a, one(3, 2))},
		{"behind, by the time", ones(2, 7), a, of(one(2, 7), a)},
		{"behind, by the replica", ones(3, 0), a, of(one(3, 0), a)},
		{"between, by the time", ones(2, 7, 4, 0), a, of(one(2, 7), a, one(4, 0))},
		{"between, by the replica", ones(3, 0, 3, 2), a, of(one(3, 0), a, one(3, 2))},
		{"that is there", of(a), a, of(a)},
		{"unlike the one that is there", of(a), b, of(a)},
		{"unlike the one that is there, either way", of(b), a, of(b)},
		{"of another kind than the one that is there", ones(3, 1), a, ones(3, 1)},
		{"that is first there", of(a, one(4, 0), one(5, 0)), b, of(a, one(4, 0), one(5, 0))},
		{"that is in the middle there", of(one(2, 0), a, one(5, 0)), b, of(one(2, 0), a, one(5, 0))},
		{"that is last there", of(one(2, 0), one(3, 0), a), b, of(one(2, 0), one(3, 0), a)},
		{"a delete of what is not there", nil, without(5, 0, run(3, 1, 1)), of(without(5, 0, run(3, 1, 1)))},
		{"what a delete that is there takes away", of(without(5, 0, run(3, 1, 1))), a, of(a, without(5, 0, run(3, 1, 1)))},
		{"a parent of one that is there", of(insert(97, run(1, 0, 2))), insert(98, run(1, 0, 1)), of(insert(98, run(1, 0, 1)), insert(97, run(1, 0, 2)))},
		{"the first stamp", ones(1, 1), one(1, 0), ones(1, 0, 1, 1)},
		{"the last stamp", ones(1<<30, 6), one(1<<30, 7), ones(1<<30, 6, 1<<30, 7)},
	} {
		if x, e := Add(c.l, c.o); e != api.OK || !equal(x, c.want) {
			t.Errorf("Add of one %s: %v, %d; want %v", c.what, x, e, c.want)
		}
		adds(t, c.l, c.o)
	}
}

// P11.2, Add: an operation put at each place of a bag, and all unlike ones where it has one of that stamp.
func TestAddAtEachPlace(t *testing.T) {
	for _, n := range []int{1, 2, 3, 9, 60, 1023, 1024} {
		l := many(n)
		for i, o := range l {
			if n > 100 && i > 9 && i < n-9 && i%31 != 0 {
				continue
			}
			less := slices.Delete(slices.Clone(l), i, i+1)
			x, e := Add(less, o)
			answers(t, "Add of what was taken out", x, e, l, api.OK)
			for k := range unlikes {
				x, e = Add(l, unlike(o.Id, k))
				answers(t, "Add of one that is there", x, e, l, api.OK)
			}
			adds(t, less, unlike(o.Id, i+1))
		}
	}
}

// P11.2, Add: to bags that may be, and to such as may not, one of each stamp about.
func TestAddTellsAll(t *testing.T) {
	for i, l := range append(good(), some()...) {
		for k, id := range stampsAbout(l) {
			if len(l) > 100 && k%5 != 0 {
				continue
			}
			adds(t, l, one(id.T, id.R))
			if id.T > 3 {
				adds(t, l, unlike(id, i+k))
			}
		}
	}
}

// P11.2, Add: where there are 1023 and 1024: one more, first, in the middle, last, and one that is there.
func TestAddComesToMaxOps(t *testing.T) {
	for _, l := range [][]api.Op{many(1024), many(1030)[6:], onesUpTo(1024, 2)} {
		less := slices.Delete(slices.Clone(l), 512, 513)
		for _, o := range []api.Op{one(1, 0), unlike(l[511].Id, 1), l[512], one(1<<30, 7)} {
			adds(t, less, o)
			if x, e := Add(less, o); e != api.OK || len(x) != 1024 && !equal(x, less) {
				t.Errorf("Add to 1023 of %v: %d, %d", o, len(x), e)
			}
		}
		for _, o := range []api.Op{one(1, 0), one(2, 1), one(l[500].Id.T+1<<20, 0), one(1<<30, 7)} {
			x, e := Add(l, o)
			refused(t, "Add to 1024 of one more", x, e, api.ErrFull)
		}
		for i, o := range l {
			if o.Id.T < 4 {
				continue
			}
			if x, e := Add(l, unlike(o.Id, i)); e != api.OK || !equal(x, l) {
				t.Fatalf("Add to 1024 of the one at %d: %d, %d", i, len(x), e)
			}
		}
	}
}

// onesUpTo is so many marks by one replica, each as much later than the one ahead.
func onesUpTo(n int, step uint32) []api.Op {
	var l []api.Op
	for i := range n {
		l = append(l, one(uint32(i+1)*step, 0))
	}
	return l
}

// P11.2, Add: an operation that may not be is refused, whatever there is: ahead of ErrFull, and ahead of one of its stamp that is there.
func TestAddRefusesBadFirst(t *testing.T) {
	for _, l := range [][]api.Op{nil, ones(9, 3), ones(9, 0), many(60), many(1023), many(1024), onesUpTo(1024, 1)} {
		for _, o := range bad() {
			x, e := Add(l, o)
			refused(t, "Add of one that may not be", x, e, api.ErrBad)
		}
	}
	for _, o := range []api.Op{one(1<<30, 7), one(1, 0), {}, many(3)[2]} {
		x, e := Add(many(1025), o)
		refused(t, "Add to 1025", x, e, api.ErrBad)
	}
}

// P11.2, Join: what is known, one by one.
func TestJoinTellsKnown(t *testing.T) {
	a, b := insert(97, run(3, 1, 1)), insert(98, run(3, 1, 1))
	for _, c := range []struct {
		what string
		a, b []api.Op
		want []api.Op
	}{
		{"none and none", nil, of(), nil},
		{"none and one", nil, of(a), of(a)},
		{"one and none", of(a), nil, of(a)},
		{"none and some", of(), ones(2, 0, 3, 1, 3, 2), ones(2, 0, 3, 1, 3, 2)},
		{"some and none", ones(2, 0, 3, 1, 3, 2), of(), ones(2, 0, 3, 1, 3, 2)},
		{"one and itself", of(a), of(a), of(a)},
		{"one and an unlike one", of(a), of(b), of(a)},
		{"one and an unlike one, either way", of(b), of(a), of(b)},
		{"one and a greater time", ones(3, 1), ones(4, 0), ones(3, 1, 4, 0)},
		{"one and a lesser time", ones(4, 0), ones(3, 1), ones(3, 1, 4, 0)},
		{"one and a greater replica", ones(3, 1), ones(3, 2), ones(3, 1, 3, 2)},
		{"one and a lesser replica", ones(3, 2), ones(3, 1), ones(3, 1, 3, 2)},
		{"in turn", ones(1, 0, 3, 0, 5, 0), ones(2, 0, 4, 0, 6, 0), ones(1, 0, 2, 0, 3, 0, 4, 0, 5, 0, 6, 0)},
		{"one behind the other", ones(1, 0, 2, 0), ones(3, 0, 4, 0), ones(1, 0, 2, 0, 3, 0, 4, 0)},
		{"one ahead of the other", ones(3, 0, 4, 0), ones(1, 0, 2, 0), ones(1, 0, 2, 0, 3, 0, 4, 0)},
		{"one about the other", ones(1, 0, 9, 0), ones(3, 0, 4, 0), ones(1, 0, 3, 0, 4, 0, 9, 0)},
		{"one in the other", ones(3, 0, 4, 0), ones(1, 0, 9, 0), ones(1, 0, 3, 0, 4, 0, 9, 0)},
		{"the first one in common", of(a, one(5, 0)), of(b, one(4, 0)), of(a, one(4, 0), one(5, 0))},
		{"the one in the middle in common", of(one(1, 0), a, one(5, 0)), of(one(2, 0), b, one(4, 0)), of(one(1, 0), one(2, 0), a, one(4, 0), one(5, 0))},
		{"the last one in common", of(one(1, 0), a), of(one(2, 0), b), of(one(1, 0), one(2, 0), a)},
		{"the last one of one, the first one of the other", of(one(1, 0), a), of(b, one(4, 0)), of(one(1, 0), a, one(4, 0))},
		{"all in common", of(one(1, 0), a, one(5, 0)), of(one(1, 0), b, one(5, 0)), of(one(1, 0), a, one(5, 0))},
		{"all of one in common", of(one(1, 0), a, one(5, 0)), of(b), of(one(1, 0), a, one(5, 0))},
		{"all of the other in common", of(b), of(one(1, 0), a, one(5, 0)), of(one(1, 0), b, one(5, 0))},
	} {
		if x, e := Join(c.a, c.b); e != api.OK || !equal(x, c.want) {
			t.Errorf("Join of %s: %v, %d; want %v", c.what, x, e, c.want)
		}
		joins(t, c.a, c.b)
		joins(t, c.b, c.a)
	}
}

// smalls is all bags of so many stamps, of each of which there is none, one, or an unlike one.
func smalls(stamps int) [][]api.Op {
	all := [][]api.Op{nil}
	for i := range stamps {
		id := by(uint32(4+i/2), uint8(i%2*3))
		for _, l := range all {
			all = append(all, append(slices.Clip(l), unlike(id, i)), append(slices.Clip(l), unlike(id, i+unlikes/2)))
		}
	}
	return all
}

// P11.2, Join: all of few stamps, none, some, all in common.
func TestJoinTellsSmall(t *testing.T) {
	all := smalls(5)
	for _, a := range all {
		for _, b := range all {
			joins(t, a, b)
		}
	}
}

// P11.2, Join: bags of all lengths and kinds, such as may not be too.
func TestJoinTellsAll(t *testing.T) {
	l := append(good(), many(1025))
	for i, x := range some() {
		if i%9 == 0 {
			l = append(l, x)
		}
	}
	for _, a := range l {
		for _, b := range l {
			joins(t, a, b)
		}
	}
}

// P11.2, Join: so many together, 1024 and one more, with stamps in common and without.
func TestJoinComesToMaxOps(t *testing.T) {
	all := many(2100)
	for _, c := range []struct{ a, b, want int }{
		{1024, 0, 1024}, {0, 1024, 1024}, {1023, 1, 1024}, {1, 1023, 1024}, {512, 512, 1024}, {512, 513, 1025}, {1024, 1, 1025}, {1, 1024, 1025}, {1023, 2, 1025}, {1024, 1024, 2048}, {1025, 0, 0}, {0, 1025, 0}, {1025, 1025, 0},
	} {
		a, b := all[:c.a], all[c.a:c.a+c.b]
		var x, y []api.Op
		for i, o := range all[:c.a+c.b] {
			if i%2 == 0 && len(x) < c.a || len(y) == c.b {
				x = append(x, o)
			} else {
				y = append(y, o)
			}
		}
		for _, two := range [][2][]api.Op{{a, b}, {b, a}, {x, y}, {y, x}} {
			refusal := api.OK
			if c.want > 1024 {
				refusal = api.ErrFull
			} else if c.want == 0 {
				refusal = api.ErrBad
			}
			joins(t, two[0], two[1])
			if l, e := Join(two[0], two[1]); e != refusal || refusal == api.OK && len(l) != c.want || refusal != api.OK && len(l) != 0 {
				t.Errorf("Join of %d and %d: %d, %d; want %d, %d", len(two[0]), len(two[1]), len(l), e, c.want, refusal)
			}
		}
	}
	whole := all[:1024]
	for _, c := range []struct {
		b    []api.Op
		want api.Errno
	}{
		{whole, api.OK}, {whole[:1], api.OK}, {whole[1023:], api.OK}, {whole[400:900], api.OK}, {all[1:1025], api.ErrFull}, {all[1023:1025], api.ErrFull}, {all[1024:1025], api.ErrFull}, {append(of(one(1, 0)), whole[1:]...), api.ErrFull}, {append(of(one(1, 0)), whole[:1023]...), api.ErrFull},
	} {
		for _, two := range [][2][]api.Op{{whole, c.b}, {c.b, whole}} {
			l, e := Join(two[0], two[1])
			if c.want == api.OK {
				answers(t, "Join of 1024 and some of them", l, e, whole, api.OK)
			} else {
				refused(t, "Join of 1024 and another one", l, e, c.want)
			}
		}
	}
}

// P11.2, Join: ErrBad, of either one, ahead of ErrFull.
func TestJoinRefusesBadFirst(t *testing.T) {
	full, other := many(1024), onesUpTo(1024, 1<<20)
	for what, l := range wrongs() {
		for _, b := range [][]api.Op{nil, full, other} {
			x, e := Join(l, b)
			refused(t, "Join of "+what, x, e, api.ErrBad)
			x, e = Join(b, l)
			refused(t, "Join with "+what, x, e, api.ErrBad)
		}
	}
	for _, i := range []int{0, 512, 1023} {
		b := slices.Clone(other)
		b[i].Kind = 9
		x, e := Join(full, b)
		refused(t, "Join of too many, one of which may not be", x, e, api.ErrBad)
		x, e = Join(b, full)
		refused(t, "Join of one that may not be, and too many", x, e, api.ErrBad)
	}
	x, e := Join(full, other)
	refused(t, "Join of too many", x, e, api.ErrFull)
}

// P11.2, Less: what is known, one by one.
func TestLessTellsKnown(t *testing.T) {
	a := insert(97, run(3, 1, 1))
	l := of(one(1, 0), one(2, 0), a, one(3, 2), one(4, 1))
	for _, c := range []struct {
		what string
		l    []api.Op
		c    []api.Times
		want []api.Op
	}{
		{"none less none", nil, nil, nil},
		{"none less some", of(), []api.Times{times(0, 1, 9)}, nil},
		{"some less none", l, nil, l},
		{"some less none that is no nil", l, []api.Times{}, l},
		{"some less others", l, []api.Times{times(0, 3, 1<<30), times(1, 1, 2, 5, 9), times(2, 1, 2, 4, 4), times(7, 1, 9)}, l},
		{"some less the first one", l, []api.Times{times(0, 1, 1)}, l[1:]},
		{"some less one in the middle", l, []api.Times{times(1, 3, 3)}, of(one(1, 0), one(2, 0), one(3, 2), one(4, 1))},
		{"some less the last one", l, []api.Times{times(1, 4, 4)}, l[:4]},
		{"some less a replica's", l, []api.Times{times(1, 1, 1<<30)}, of(one(1, 0), one(2, 0), one(3, 2))},
		{"some less those of a time", l, []api.Times{times(0, 3, 3), times(1, 3, 3), times(2, 3, 3)}, of(one(1, 0), one(2, 0), one(4, 1))},
		{"some less all but one", l, []api.Times{times(0, 1, 2), times(1, 4, 4), times(2, 3, 3)}, of(a)},
		{"some less all", l, []api.Times{times(0, 1, 2), times(1, 3, 4), times(2, 3, 3)}, nil},
		{"some less much more", l, []api.Times{times(0, 1, 1<<30), times(1, 1, 1<<30), times(2, 1, 1<<30), times(3, 1, 1<<30)}, nil},
		{"a delete, and what it takes away, less this", of(a, without(9, 0, run(3, 1, 1))), []api.Times{times(1, 3, 3)}, of(without(9, 0, run(3, 1, 1)))},
		{"a delete, and what it takes away, less it", of(a, without(9, 0, run(3, 1, 1))), []api.Times{times(0, 9, 9)}, of(a)},
		{"a child, less its parent", of(insert(97, run(1, 0, 1)), insert(98, run(1, 0, 2))), []api.Times{times(0, 1, 1)}, of(insert(98, run(1, 0, 2)))},
	} {
		if x, e := Less(c.l, c.c); e != api.OK || !equal(x, c.want) {
			t.Errorf("%s: %v, %d; want %v", c.what, x, e, c.want)
		}
		leaves(t, c.l, c.c)
	}
}

// P11.2, Less: bags of all kinds, such as may not be too, and clocks of none, of some, of all, and such as may not be.
func TestLessTellsAll(t *testing.T) {
	for _, l := range append(good(), some()...) {
		for _, c := range clocks() {
			leaves(t, l, c)
		}
	}
}

// P11.2, Less: the stamps of a part of a bag taken away leave the other part.
func TestLessTakesAway(t *testing.T) {
	for _, n := range []int{0, 1, 2, 3, 9, 60, 1024} {
		l := many(n)
		for step := range 5 {
			var some, rest []api.Op
			for i, o := range l {
				if i%5 <= step {
					some = append(some, o)
				} else {
					rest = append(rest, o)
				}
			}
			x, e := Less(l, clockInWords(some))
			answers(t, "Less", x, e, rest, api.OK)
			x, e = Less(some, clockInWords(rest))
			answers(t, "Less of what is elsewhere", x, e, some, api.OK)
		}
	}
}

// P11.2, Less: clocks that may not be are refused, whatever bag there is.
func TestLessRefusesBadClocks(t *testing.T) {
	for _, c := range badClocks() {
		for _, l := range [][]api.Op{nil, {}, ones(1, 0), ones(9, 1), many(60), many(1024)} {
			x, e := Less(l, c)
			refused(t, "Less of a clock that may not be", x, e, api.ErrBad)
		}
	}
}

// P11.2, Ids: what is known, one by one.
func TestIdsTellKnown(t *testing.T) {
	for _, c := range []struct {
		l    []api.Op
		want []api.Times
	}{
		{nil, nil},
		{of(), nil},
		{ones(1, 0), []api.Times{times(0, 1, 1)}},
		{ones(1<<30, 7), []api.Times{times(7, 1<<30, 1<<30)}},
		{ones(1, 0, 2, 0, 4, 0), []api.Times{times(0, 1, 2, 4, 4)}},
		{ones(1, 0, 1, 1, 2, 0, 2, 1), []api.Times{times(0, 1, 2), times(1, 1, 2)}},
		{ones(1, 7, 2, 0), []api.Times{times(0, 2, 2), times(7, 1, 1)}},
		{of(insert(97, run(1, 0, 3))), []api.Times{times(0, 3, 3)}},
		{of(without(9, 1, run(1, 0, 3)), join(9, 2, run(1, 0, 1))), []api.Times{times(1, 9, 9), times(2, 9, 9)}},
		{onesUpTo(1024, 1), []api.Times{times(0, 1, 1024)}},
	} {
		if x, e := Ids(c.l); e != api.OK || !clock.Same(x, c.want) {
			t.Errorf("Ids of %v: %v, %d; want %v", brief(c.l), x, e, c.want)
		}
	}
	if c, e := Ids(onesUpTo(1024, 2)); e != api.OK || len(c) != 1 || len(c[0].Spans) != 1024 || clock.Count(c) != 1024 {
		t.Errorf("Ids of 1024 that don't touch: %d stamps, %d", clock.Count(c), e)
	}
}

// P11.2, Ids: of bags of all kinds, such as may not be too; all stamps are there, and no other one.
func TestIdsTellAll(t *testing.T) {
	for _, l := range append(good(), some()...) {
		tells(t, l)
		c, e := Ids(l)
		if e != api.OK {
			continue
		}
		if clock.Check(c) != api.OK || clock.Count(c) != len(l) {
			t.Fatalf("Ids of %d: %d stamps, %v", len(l), clock.Count(c), c)
		}
		for _, o := range l {
			if !clock.Has(c, o.Id) {
				t.Fatalf("Ids of %v have %v not", brief(l), o.Id)
			}
		}
		x, e := Less(l, c)
		answers(t, "Less of all", x, e, nil, api.OK)
	}
}

// orders is some numbers up to one in many orders: all of few.
func orders(n int) [][]int {
	if n == 0 {
		return [][]int{nil}
	}
	var out [][]int
	for _, l := range orders(n - 1) {
		for i := range n {
			out = append(out, slices.Insert(slices.Clone(l), i, n-1))
		}
	}
	return out
}

// put puts operations to a bag one by one.
func put(t *testing.T, l []api.Op, more []api.Op) []api.Op {
	t.Helper()
	for _, o := range more {
		x, e := Add(l, o)
		if e != api.OK {
			t.Fatalf("Add of %v to %v: %d", o, brief(l), e)
		}
		l = x
	}
	return l
}

// P11.4: operations put in each order make the same bag, put twice too.
func TestOrderOfFewIsNothing(t *testing.T) {
	l := many(6)
	for _, order := range orders(6) {
		var in []api.Op
		for _, i := range order {
			in = append(in, l[i])
		}
		x := put(t, nil, in)
		answers(t, "put in another order", x, api.OK, l, api.OK)
		answers(t, "put twice", put(t, x, in), api.OK, l, api.OK)
		answers(t, "put to some of them", put(t, l[2:4], in), api.OK, l, api.OK)
	}
}

// P11.4: so do many, forwards, backwards, and in whatever order.
func TestOrderOfManyIsNothing(t *testing.T) {
	for _, n := range []int{60, 200, 1024} {
		l := many(n)
		for _, step := range []int{1, 7, 11, 577, n - 1} {
			var in []api.Op
			for i := range n {
				in = append(in, l[(i*step+n/2)%n])
			}
			if step%2 == 0 && n%2 == 0 {
				slices.Reverse(l)
				in = slices.Clone(l)
				slices.Reverse(l)
			}
			answers(t, "put in another order", put(t, nil, in), api.OK, l, api.OK)
		}
	}
}

// P11.4: of unlike ones of one stamp the one that came first stays.
func TestFirstOfUnlikeOnesStays(t *testing.T) {
	for i := range unlikes {
		for k := range unlikes {
			a, b := unlike(by(9, 3), i), unlike(by(9, 3), k)
			if equalOp(a, b) != (i == k) {
				t.Fatalf("%v and %v are the same", a, b)
			}
			x := put(t, ones(3, 0, 9, 2, 9, 4), of(a, b, a))
			answers(t, "put", x, api.OK, of(one(3, 0), one(9, 2), a, one(9, 4)), api.OK)
			x, e := Join(of(a), of(b))
			answers(t, "Join", x, e, of(a), api.OK)
		}
	}
}

// P11.4: bags that are joined in another order, or in other groups, are the same; a bag with itself is itself; a join is what comes of putting each.
func TestJoinsHangOnNoOrder(t *testing.T) {
	all := many(40)
	var parts [][]api.Op
	for i := range 12 {
		var l []api.Op
		for k, o := range all {
			if (k*7+i*i)%(i+2) < 2 {
				l = append(l, o)
			}
		}
		parts = append(parts, l)
	}
	parts = append(parts, nil, all, all[:1], all[39:])
	both := func(a, b []api.Op) []api.Op {
		t.Helper()
		x, e := Join(a, b)
		if e != api.OK || !mayBe(x) {
			t.Fatalf("Join of %v, %v: %d", brief(a), brief(b), e)
		}
		return x
	}
	for _, a := range parts {
		answers(t, "Join with itself", both(a, a), api.OK, a, api.OK)
		for _, b := range parts {
			ab := both(a, b)
			answers(t, "Join either way", both(b, a), api.OK, ab, api.OK)
			answers(t, "Join twice", both(ab, b), api.OK, ab, api.OK)
			answers(t, "put one by one", put(t, a, b), api.OK, ab, api.OK)
			for _, c := range parts {
				answers(t, "Join in another group", both(a, both(b, c)), api.OK, both(ab, c), api.OK)
			}
		}
	}
}

// P11.4: what is left and what was taken away, joined, is all; the stamps of a join are those of both, joined.
func TestLessAndJoinAreOfSets(t *testing.T) {
	all := smalls(4)
	for _, a := range all {
		for _, b := range all {
			ids, _ := Ids(b)
			left, e := Less(a, ids)
			if e != api.OK {
				t.Fatalf("Less of %v, %v: %d", a, ids, e)
			}
			there, _ := Join(a, b)
			mine, _ := Ids(a)
			want, _ := clock.Join(mine, ids)
			if c, e := Ids(there); e != api.OK || !clock.Same(c, want) {
				t.Fatalf("the stamps of %v and %v joined: %v, %d; want %v", a, b, c, e, want)
			}
			x, e := Join(left, b)
			other, _ := Join(b, a)
			answers(t, "Join of what is left", x, e, other, api.OK)
		}
	}
}

// P11.1, P11.2: unlike operations are held as they are, those with the longest places too.
func TestHoldsLongPlaces(t *testing.T) {
	var p []api.Run
	for i := range 64 {
		p = append(p, run(uint32(i+1), uint8(i%2), 1))
	}
	l := of(insert(0x10ffff, p...), mark(run(100, 0, 4096)), without(1<<30, 0, p...), join(1<<30, 1, run(1, 0, 4096)))
	x := put(t, nil, of(l[2], l[0], l[3], l[1]))
	answers(t, "put", x, api.OK, l, api.OK)
	for _, o := range l {
		finds(t, l, o.Id)
	}
	joins(t, l[:2], l[1:])
	leaves(t, l, []api.Times{times(0, 4195, 4195)})
	o := insert(97, append(slices.Clone(p), run(65, 0, 1))...)
	y, e := Add(l, o)
	refused(t, "Add of one of 65 runs", y, e, api.ErrBad)
	refusesAll(t, "one of 65 runs", of(l[0], o, l[1]))
}

// memory is a bag's, with what lies around it: other operations, and, around each place, other runs.
type memory struct {
	ops    []api.Op
	places [][]api.Run
}

// lay is a bag as it is, in memory where others are around.
func lay(l []api.Op) (memory, []api.Op) {
	m := memory{ops: slices.Concat(of(one(1, 0)), l, of(one(1<<30, 6), one(1<<30, 7)))}
	for i, o := range l {
		p := slices.Concat(at(run(1, 0, 1)), o.At, at(run(9, 9, 9), run(8, 8, 8)))
		m.places = append(m.places, p)
		m.ops[1+i].At = p[1 : 1+len(o.At)]
	}
	return m, m.ops[1 : 1+len(l)]
}

// copied is a memory as it is now.
func (m memory) copied() memory {
	was := memory{ops: slices.Clone(m.ops)}
	for _, p := range m.places {
		was.places = append(was.places, slices.Clone(p))
	}
	return was
}

// same is whether nothing was changed: no number, and no place is another memory's.
func (m memory) same(was memory) bool {
	for i, p := range m.places {
		in := m.ops[1+i].At
		if !slices.Equal(p, was.places[i]) || len(in) > 0 && &in[0] != &p[1] {
			return false
		}
	}
	return equal(m.ops, was.ops)
}

// spoil writes over all of it.
func (m memory) spoil() {
	for _, p := range m.places {
		spoilPlace(p)
	}
	for i := range m.ops {
		m.ops[i] = one(77, 7)
	}
}

// spoilPlace writes over all that a place has room for.
func spoilPlace(p []api.Run) {
	p = p[:cap(p)]
	for i := range p {
		p[i] = run(77, 7, 77)
	}
}

// spoil writes over all that a bag has room for, and its places have.
func spoil(l []api.Op) {
	for _, o := range l {
		spoilPlace(o.At)
	}
	l = l[:cap(l)]
	for i := range l {
		l[i] = one(77, 7)
	}
}

// spoilClock writes over all that a clock has room for, and its spans have.
func spoilClock(c []api.Times) {
	for _, x := range c {
		l := x.Spans[:cap(x.Spans)]
		for i := range l {
			l[i] = api.Span{From: 77, To: 77}
		}
	}
	c = c[:cap(c)]
	for i := range c {
		c[i] = times(7, 77, 77)
	}
}

// newMemory asks whether what a call answers of two bags is new memory: what is handed in is only read, and may be changed behind the call; what is answered may be changed by its caller, each place of it by itself.
func newMemory(t *testing.T, what string, a, b []api.Op, call func(a, b []api.Op) []api.Op) {
	t.Helper()
	m, x := lay(a)
	n, y := lay(b)
	wasM, wasN := m.copied(), n.copied()
	first, second := call(x, y), call(x, y)
	want := copied(first)
	if !m.same(wasM) || !n.same(wasN) {
		t.Fatalf("%s of %v, %v turns what is handed in", what, brief(a), brief(b))
	}
	for i := range first {
		spoilPlace(first[i].At)
		if !equal(first[i+1:], want[i+1:]) {
			t.Fatalf("two places of %s of %v, %v share memory", what, brief(a), brief(b))
		}
	}
	spoil(first)
	if !m.same(wasM) || !n.same(wasN) || !equal(second, want) {
		t.Fatalf("%s of %v, %v shares memory", what, brief(a), brief(b))
	}
	m.spoil()
	n.spoil()
	if !equal(second, want) {
		t.Fatalf("%s of %v, %v changes with what was handed in", what, brief(a), brief(b))
	}
}

// P11.3: the answers of all calls that answer a bag, or an operation.
func TestAnswersAreNewMemory(t *testing.T) {
	l := append(good(), some()...)
	for i, a := range l {
		b := l[(i*7+3)%len(l)]
		newMemory(t, "Twin", a, nil, func(a, _ []api.Op) []api.Op { return Twin(a) })
		for _, b := range [][]api.Op{nil, a, b} {
			newMemory(t, "Join", a, b, func(a, b []api.Op) []api.Op { x, _ := Join(a, b); return x })
			newMemory(t, "Join", b, a, func(a, b []api.Op) []api.Op { x, _ := Join(a, b); return x })
		}
		for _, o := range append(of(one(1, 0), unlike(by(9, 1), i), one(1<<30, 7)), a[:min(len(a), 9)]...) {
			newMemory(t, "Add", a, of(o), func(a, b []api.Op) []api.Op { x, _ := Add(a, b[0]); return x })
			newMemory(t, "Find", a, of(o), func(a, b []api.Op) []api.Op {
				x, is := Find(a, b[0].Id)
				if !is {
					return nil
				}
				return of(x)
			})
		}
		for _, c := range append(clocks()[:9], nil, clockInWords(b)) {
			newMemory(t, "Less", a, nil, func(a, _ []api.Op) []api.Op {
				mine := clock.Twin(c)
				x, _ := Less(a, mine)
				if !clock.Same(mine, c) {
					t.Fatalf("Less turns the clock %v", c)
				}
				spoilClock(mine)
				return x
			})
		}
	}
}

// P11.3: Check, Same and Ids only read; a clock that Ids answer is new memory, of which no two lists are one.
func TestOthersOnlyRead(t *testing.T) {
	for _, l := range append(good(), some()...) {
		m, a := lay(l)
		n, b := lay(l)
		was := m.copied()
		checks(t, a)
		tells(t, a)
		if !Same(a, b) || !Same(a, a) || !m.same(was) || !n.same(was) {
			t.Fatalf("%v is turned", brief(l))
		}
		one, e := Ids(a)
		two, _ := Ids(a)
		want := clock.Twin(one)
		for i := range one {
			spoilClock(one[i : i+1 : i+1])
			if e == api.OK && !clock.Same(one[i+1:], want[i+1:]) {
				t.Fatalf("two lists of the stamps of %v share memory", brief(l))
			}
		}
		m.spoil()
		if !clock.Same(two, want) {
			t.Fatalf("the stamps of %v share memory", brief(l))
		}
	}
}

// P11.3: where what is handed in shares memory, no two places of an answer do.
func TestSharedPlacesAreTakenApart(t *testing.T) {
	p := at(run(1, 0, 1), run(3, 1, 1))
	l := of(insert(97, p...), without(4, 0, p...), without(4, 1, p...), join(5, 0, p...))
	apart := func(what string, x []api.Op, e api.Errno, want []api.Op) {
		t.Helper()
		want = copied(want)
		if e != api.OK || !equal(x, want) {
			t.Fatalf("%s: %v, %d; want %v", what, x, e, want)
		}
		for i := range x {
			spoilPlace(x[i].At)
			if !equal(x[i+1:], want[i+1:]) {
				t.Fatalf("two places of %s share memory", what)
			}
		}
		if !slices.Equal(p, at(run(1, 0, 1), run(3, 1, 1))) {
			t.Fatalf("a place of %s shares memory with what was handed in", what)
		}
	}
	x, e := Join(l, l)
	apart("Join", x, e, l)
	x, e = Join(l[:2], l[1:])
	apart("Join", x, e, l)
	x, e = Add(l[:3], l[3])
	apart("Add", x, e, l)
	x, e = Add(l, l[0])
	apart("Add", x, e, l)
	x, e = Less(l, []api.Times{times(0, 4, 4)})
	apart("Less", x, e, of(l[0], l[2], l[3]))
	apart("Twin", Twin(l), api.OK, l)
}

// P1, P2: nothing is kept from call to call, those with errors among them.
func TestKeepsNothing(t *testing.T) {
	a, b := many(9), many(12)[4:]
	c := []api.Times{times(0, 3, 9), times(3, 1, 20)}
	for i, l := range append(some(), good()...) {
		other := append(of(one(1, 0)), l...)
		Check(l)
		Find(l, by(9, 1))
		Add(l, b[i%len(b)])
		Join(l, other)
		Join(other, l)
		Less(l, clocks()[i%len(clocks())])
		Ids(l)
		Same(l, other)
		Twin(l)
		checks(t, a)
		finds(t, a, a[i%9].Id)
		finds(t, a, by(1<<30, 7))
		adds(t, a, b[i%len(b)])
		joins(t, a, b)
		leaves(t, a, c)
		tells(t, a)
		if !Same(a, Twin(a)) || Same(a, b) {
			t.Fatalf("behind %v another answer", brief(l))
		}
	}
}

// bagFrom makes bytes a bag that may be, or nearly: of each three what its stamp is behind the one ahead, by whom, and which of the unlike ones.
func bagFrom(b []byte) []api.Op {
	var l []api.Op
	id := by(4, 0)
	for ; len(b) >= 3; b = b[3:] {
		switch {
		case b[0] == 255:
			id = by(id.T-1, b[1])
		case b[0] == 254:
			id = by(1<<30-uint32(b[1]), b[1]%8)
		case b[0] >= 100 && id.R < 7:
			id = by(id.T, id.R+1+b[1]%(7-id.R))
		default:
			id = by(id.T+1+uint32(b[0]%4), b[1]%8)
		}
		o := unlike(id, int(b[2]))
		switch b[2] {
		case 255:
			o.Kind = b[1]
		case 254:
			o.Point = int(b[1]) - 9
		case 253:
			o.At = o.At[1:]
		case 252:
			o.Id.R = b[1]
		}
		l = append(l, o)
	}
	return l
}

// clockFrom makes bytes a clock that may be, or nearly.
func clockFrom(b []byte) []api.Times {
	var c []api.Times
	last := uint32(0)
	for ; len(b) >= 3; b = b[3:] {
		end := len(c) - 1
		if end < 0 || b[0] >= 200 {
			c = append(c, api.Times{R: uint8(end+1) + b[1]%3})
			end, last = end+1, 0
		}
		from := last + 2 + uint32(b[0]%8)
		if b[0]%8 == 7 && b[1] == 0 {
			from = last
		}
		last = from + uint32(b[2]%16)
		c[end].Spans = append(c[end].Spans, api.Span{From: from, To: last})
	}
	return c
}

// P1, P11.1 to P11.4: whatever bag, operation and clock.
func FuzzAdd(f *testing.F) {
	for _, b := range [][]byte{nil, {0, 0, 0}, {0, 0, 0, 0, 0, 1}, {0, 0, 0, 120, 0, 3, 0, 1, 5}, {0, 0, 2, 255, 0, 2}, {254, 0, 7, 0, 0, 1}, {0, 8, 255}, {0, 1, 252}, make([]byte, 3*1024), make([]byte, 3*1025)} {
		f.Add(b, uint32(5), uint8(0), 3, []byte{0, 0, 0})
		f.Add(b, uint32(1<<30), uint8(7), 8, []byte{200, 0, 9, 200, 1, 9})
		f.Add(b, uint32(1<<30+1), uint8(8), 0, []byte{7, 0, 0})
	}
	f.Fuzz(func(t *testing.T, b []byte, at uint32, r uint8, kind int, more []byte) {
		l, c := bagFrom(b), clockFrom(more)
		o := unlike(by(at, r), max(kind, 0))
		m, x := lay(l)
		was := m.copied()
		checks(t, x)
		adds(t, x, o)
		leaves(t, x, c)
		tells(t, x)
		finds(t, x, o.Id)
		for _, id := range stampsAbout(x[:min(len(x), 9)]) {
			finds(t, x, id)
		}
		if !m.same(was) || !Same(Twin(x), l) || !equal(Twin(x), l) {
			t.Fatalf("%v is turned, or its twin is", brief(l))
		}
		newMemory(t, "Add", l, of(o), func(a, b []api.Op) []api.Op { y, _ := Add(a, b[0]); return y })
	})
}

// P1, P11.2 to P11.4: whatever two bags.
func FuzzJoin(f *testing.F) {
	for _, b := range [][]byte{nil, {0, 0, 0}, {1, 0, 0, 0, 0, 1}, {0, 0, 0, 120, 0, 3, 0, 1, 5}, {0, 0, 2, 255, 0, 2}, {254, 0, 7, 0, 0, 1}, make([]byte, 3*512), make([]byte, 3*1024)} {
		f.Add(b, []byte{0, 0, 0})
		f.Add(b, []byte{0, 0, 1, 1, 3, 4})
		f.Add(make([]byte, 3*513), b)
	}
	f.Fuzz(func(t *testing.T, one, two []byte) {
		a, b := bagFrom(one), bagFrom(two)
		joins(t, a, b)
		joins(t, b, a)
		joins(t, a, a)
		if want := equal(a, b); Same(a, b) != want || Same(b, a) != want || Same(Twin(a), Twin(b)) != want {
			t.Fatalf("Same of %v, %v: %t", brief(a), brief(b), !want)
		}
		newMemory(t, "Join", a, b, func(a, b []api.Op) []api.Op { x, _ := Join(a, b); return x })
		x, e := Join(a, b)
		if e != api.OK {
			return
		}
		answers(t, "put one by one", put(t, a, b), api.OK, x, api.OK)
		again, e := Join(x, b)
		answers(t, "Join twice", again, e, x, api.OK)
	})
}

// P11.1, P11.2: the chapter's own examples.
func TestExamples(t *testing.T) {
	x, e := Add(nil, one(3, 0))
	answers(t, "Add(none, 3 by 0)", x, e, ones(3, 0), api.OK)
	x, e = Add(x, one(1, 1))
	answers(t, "Add of that, 1 by 1", x, e, ones(1, 1, 3, 0), api.OK)
	y, e := Add(x, one(3, 0))
	answers(t, "Add of that, 3 by 0", y, e, ones(1, 1, 3, 0), api.OK)
	y, e = Less(x, []api.Times{times(0, 3, 3)})
	answers(t, "Less of that, 0:3-3", y, e, ones(1, 1), api.OK)
	if c, e := Ids(x); e != api.OK || !clock.Same(c, []api.Times{times(0, 3, 3), times(1, 1, 1)}) {
		t.Errorf("Ids of it all: %v, %d", c, e)
	}
	if e := Check(ones(3, 0, 1, 1)); e != api.ErrBad {
		t.Errorf("Check(3 by 0, 1 by 1): %d", e)
	}
	y, e = Add(nil, api.Op{})
	refused(t, "Add(none, zero)", y, e, api.ErrBad)
}
