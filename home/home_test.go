package home

import (
	"math"
	"slices"
	"testing"

	"octavo/api"
	"octavo/bag"
	"octavo/op"
	"octavo/place"
)

// run is so many stamps by r from t on.
func run(t uint32, r uint8, many int) api.Run {
	return api.Run{T: t, R: r, Many: many}
}

// at is a place of some runs.
func at(l ...api.Run) []api.Run {
	return l
}

// by is a stamp.
func by(t uint32, r uint8) api.Id {
	return api.Id{T: t, R: r}
}

// of is a bag of some operations.
func of(l ...api.Op) []api.Op {
	return l
}

// ids is some stamps.
func ids(l ...api.Id) []api.Id {
	return l
}

// first is the first section.
var first = api.Id{}

// endOf is the last stamp of a place; the zero one, if it has none.
func endOf(p []api.Run) api.Id {
	if len(p) == 0 {
		return first
	}
	r := p[len(p)-1]
	return by(r.T+uint32(r.Many)-1, r.R)
}

func insert(p ...api.Run) api.Op {
	return api.Op{Kind: 1, Id: endOf(p), At: p, Point: 97}
}

func mark(p ...api.Run) api.Op {
	return api.Op{Kind: 2, Id: endOf(p), At: p}
}

func without(t uint32, r uint8, p ...api.Run) api.Op {
	return api.Op{Kind: 3, Id: by(t, r), At: p}
}

func join(t uint32, r uint8, p ...api.Run) api.Op {
	return api.Op{Kind: 4, Id: by(t, r), At: p}
}

// one is a mark right behind the beginning.
func one(t uint32, r uint8) api.Op {
	return mark(run(t, r, 1))
}

// before is whether one stamp is less than another one, by the words of chapter 5.
func before(a, b api.Id) bool {
	return a.T < b.T || a.T == b.T && a.R < b.R
}

// stampsOf is the stamps of a place that may be.
func stampsOf(p []api.Run) []api.Id {
	var l []api.Id
	for _, r := range p {
		for n := range r.Many {
			l = append(l, by(r.T+uint32(n), r.R))
		}
	}
	return l
}

// ahead is whether one place is ahead of another one, by the words of chapter 6.
func ahead(p, q []api.Run) bool {
	a, b := stampsOf(p), stampsOf(q)
	for i := range min(len(a), len(b)) {
		if a[i] != b[i] {
			return before(b[i], a[i])
		}
	}
	return len(a) < len(b)
}

// under is the place of a child, by the words of chapter 6, whether it may be or not.
func under(p []api.Run, id api.Id) []api.Run {
	q := slices.Clone(p)
	if end := len(q) - 1; end >= 0 && endOf(q) == by(id.T-1, id.R) {
		q[end].Many++
		return q
	}
	return append(q, run(id.T, id.R, 1))
}

// parent is a place without its last stamp.
func parent(p []api.Run) []api.Run {
	q := slices.Clone(p)
	end := len(q) - 1
	if end < 0 || q[end].Many == 1 {
		return q[:max(0, end)]
	}
	q[end].Many--
	return q
}

// mayBe is what bags that may be are, by the words of chapter 11.
func mayBe(l []api.Op) bool {
	for i, o := range l {
		if op.Check(o) != api.OK || i > 0 && !before(l[i-1].Id, o.Id) {
			return false
		}
	}
	return len(l) <= 1024
}

// section is one by the words: its name, and where it begins.
type section struct {
	id   api.Id
	from []api.Run
}

// inWords is the sections that a bag has to have, in order; none, if it may not be.
func inWords(l []api.Op) []section {
	if !mayBe(l) {
		return nil
	}
	gone := map[api.Id]int{}
	for _, o := range l {
		if o.Kind == 4 {
			gone[endOf(o.At)]++
		}
	}
	out := []section{{}}
	for _, o := range l {
		if o.Kind != 2 || gone[o.Id] > 0 {
			continue
		}
		i := 1
		for i < len(out) && ahead(out[i].from, o.At) {
			i++
		}
		out = slices.Insert(out, i, section{o.Id, o.At})
	}
	return out
}

// homeInWords is what Of has to answer: each section is asked, from the last one on.
func homeInWords(secs []section, p []api.Run) (api.Id, api.Errno) {
	if len(secs) == 0 || len(p) > 0 && place.Check(p) != api.OK {
		return first, api.ErrBad
	}
	for _, s := range slices.Backward(secs) {
		if !ahead(p, s.from) {
			return s.id, api.OK
		}
	}
	return first, api.OK
}

// numberInWords is where a section stands among some; -1, if it is none.
func numberInWords(secs []section, s api.Id) int {
	return slices.IndexFunc(secs, func(x section) bool { return x.id == s })
}

// aheadInWords is what Ahead has to answer.
func aheadInWords(secs []section, s api.Id) (api.Id, api.Errno) {
	i := numberInWords(secs, s)
	switch {
	case len(secs) == 0:
		return first, api.ErrBad
	case i < 1:
		return first, api.ErrSection
	}
	return secs[i-1].id, api.OK
}

// spanInWords is what Span has to answer.
func spanInWords(secs []section, s api.Id) (from, to []api.Run, e api.Errno) {
	i := numberInWords(secs, s)
	switch {
	case len(secs) == 0:
		return nil, nil, api.ErrBad
	case i < 0:
		return nil, nil, api.ErrSection
	case i == len(secs)-1:
		return secs[i].from, nil, api.OK
	}
	return secs[i].from, secs[i+1].from, api.OK
}

// brief is as much of some operations as is short enough to be told.
func brief(l []api.Op) []api.Op {
	l = slices.Clone(l[:min(len(l), 12)])
	for i, o := range l {
		l[i].At = short(o.At)
	}
	return l
}

// short is as much of a place as is short enough to be told.
func short(p []api.Run) []api.Run {
	return p[:min(len(p), 5)]
}

// asks asks whether all calls answer what they have to, of some places and some stamps.
func asks(t *testing.T, l []api.Op, places [][]api.Run, stamps []api.Id) {
	t.Helper()
	secs := inWords(l)
	allTells(t, l, secs)
	for _, p := range places {
		want, refusal := homeInWords(secs, p)
		if s, e := Of(l, p); s != want || e != refusal {
			t.Fatalf("Of(%d, %v, of %v): %v, %d; want %v, %d", len(l), brief(l), short(p), s, e, want, refusal)
		}
	}
	for _, s := range stamps {
		want, refusal := aheadInWords(secs, s)
		if x, e := Ahead(l, s); x != want || e != refusal {
			t.Fatalf("Ahead(%d, %v, of %v): %v, %d; want %v, %d", len(l), brief(l), s, x, e, want, refusal)
		}
		from, to, refusal := spanInWords(secs, s)
		if a, b, e := Span(l, s); !slices.Equal(a, from) || !slices.Equal(b, to) || e != refusal {
			t.Fatalf("Span(%d, %v, of %v): %v to %v, %d; want %v to %v, %d", len(l), brief(l), s, short(a), short(b), e, short(from), short(to), refusal)
		}
	}
}

// allTells asks whether All answers what it has to.
func allTells(t *testing.T, l []api.Op, secs []section) {
	t.Helper()
	var want []api.Id
	refusal := api.OK
	for _, s := range secs {
		want = append(want, s.id)
	}
	if len(want) == 0 {
		refusal = api.ErrBad
	}
	if all, e := All(l); !slices.Equal(all, want) || e != refusal {
		t.Fatalf("All of %d, %v: %v, %d; want %v, %d", len(l), brief(l), all[:min(len(all), 12)], e, want[:min(len(want), 12)], refusal)
	}
}

// asksAbout asks all calls of what stands in a bag, and about it.
func asksAbout(t *testing.T, l []api.Op) {
	t.Helper()
	asks(t, l, placesAbout(l), stampsAbout(l))
}

// sample is a bag's operations; of a long one those at its ends, and some between.
func sample(l []api.Op) []api.Op {
	var out []api.Op
	for i, o := range l {
		if len(l) <= 60 || i < 5 || i >= len(l)-5 || i%101 == 0 {
			out = append(out, o)
		}
	}
	return out
}

// placesAbout is the beginning, the places of a bag's operations, and those right ahead of each, right behind it, and under it, some of which may not be.
func placesAbout(l []api.Op) [][]api.Run {
	out := [][]api.Run{nil, {}, at(run(1, 0, 1)), at(run(1, 0, 4096)), at(run(1<<30, 0, 1)), at(run(1<<30, 7, 1)), at(run(1<<30-4095, 7, 4096)), at(run(0, 0, 1)), at(run(1, 8, 1))}
	for _, o := range sample(l) {
		p, end := parent(o.At), endOf(o.At)
		// Of its brothers: the next younger ones and their last child, the next elder ones.
		younger := [][]api.Run{under(p, by(end.T, end.R+1)), under(p, by(end.T+1, 0)), under(p, by(end.T+1, 7)), under(p, by(1<<30, 7))}
		out = append(out, o.At, p)
		out = append(out, younger...)
		out = append(out, under(younger[0], by(end.T+1, 0)), under(younger[1], by(end.T+2, 0)))
		out = append(out, under(p, by(end.T, end.R-1)), under(p, by(end.T-1, 7)), under(p, by(end.T-1, 0)), under(p, by(endOf(p).T+1, 0)))
		// Of its children: the first one, the last one, one of the same run.
		out = append(out, under(o.At, by(1<<30, 7)), under(o.At, by(end.T+1, 0)), under(o.At, by(end.T+1, end.R)), under(under(o.At, by(end.T+1, 0)), by(end.T+2, 0)))
	}
	return out
}

// stampsAbout is stamps of the edges, of a bag's operations, of the places in it, and those beside them.
func stampsAbout(l []api.Op) []api.Id {
	out := ids(first, by(0, 1), by(0, 255), by(1, 0), by(1, 7), by(1, 8), by(1<<30, 0), by(1<<30, 7), by(1<<30, 8), by(1<<30+1, 0), by(1<<31, 0), by(math.MaxUint32, 255))
	for _, o := range sample(l) {
		for _, id := range ids(o.Id, endOf(o.At), endOf(parent(o.At))) {
			out = append(out, id, by(id.T-1, id.R), by(id.T+1, id.R), by(id.T, id.R^1), by(id.T, id.R+8), by(id.T+1<<31, id.R), by(0, id.R))
		}
	}
	return out
}

// dice are numbers that look like chance, and are the same each time.
type dice struct {
	n uint32
}

func (d *dice) under(n int) int {
	d.n = d.n*1664525 + 1013904223
	return int(d.n>>8) % n
}

// next is a stamp behind one: of the same time, the next one, or later.
func (d *dice) next(id api.Id) api.Id {
	if d.under(4) == 0 && id.R < 7 {
		return by(id.T, id.R+1)
	}
	return by(id.T+1+uint32(d.under(4)/3), uint8(d.under(8)))
}

// grown is a bag of so many operations: elements under others, and what takes elements away; kinds tells how the kinds are shared out.
func grown(n int, seed uint32, kinds string) []api.Op {
	d := &dice{seed}
	var l []api.Op
	places := [][]api.Run{nil}
	id := by(3, 0)
	for range n {
		id = d.next(id)
		p := places[d.under(len(places))]
		if d.under(2) > 0 {
			p = places[max(0, len(places)-1-d.under(4))]
		}
		if endOf(p).T >= id.T || len(p) > 60 {
			p = nil
		}
		goal := p
		if len(goal) == 0 {
			goal = at(run(uint32(1+d.under(2)), uint8(d.under(8)), 1))
		}
		switch kinds[d.under(len(kinds))] {
		case 'i':
			l = append(l, insert(under(p, id)...))
		case 'm':
			l = append(l, mark(under(p, id)...))
		case 'd':
			l = append(l, without(id.T, id.R, goal...))
		case 'j':
			l = append(l, join(id.T, id.R, goal...))
		}
		if o := l[len(l)-1]; o.Kind < 3 {
			places = append(places, o.At)
		}
	}
	return l
}

// some is bags of many lengths and kinds.
func some() [][]api.Op {
	l := [][]api.Op{nil, {}}
	for i, kinds := range []string{"m", "i", "id", "j", "mj", "im", "imdj", "mmmmj", "iiiidddmj", "mmj", "immmd"} {
		for k, n := range []int{1, 2, 3, 5, 8, 13, 40} {
			for turn := range uint32(3) {
				l = append(l, grown(n, uint32(i*1000+k*100)+turn, kinds))
			}
		}
	}
	return l
}

// alone is so many operations of one kind, or of some in turn, side by side.
func alone(n int, kinds string) []api.Op {
	var l []api.Op
	for i := range n {
		t := uint32(i + 10)
		switch kinds[i%len(kinds)] {
		case 'i':
			l = append(l, insert(run(t, 1, 1)))
		case 'm':
			l = append(l, one(t, 1))
		case 'd':
			l = append(l, without(t, 1, run(t-1, 1, 1)))
		case 'j':
			l = append(l, join(t, 1, run(t-1, 1, 1)))
		}
	}
	return l
}

// P13.1, P13.2: the chapter's own examples.
func TestExamples(t *testing.T) {
	m, n := mark(run(1, 0, 2)), mark(run(1, 0, 1), run(5, 1, 1))
	l := of(m, n)
	if all, e := All(l); e != api.OK || !slices.Equal(all, ids(first, n.Id, m.Id)) {
		t.Errorf("All(M N): %v, %d", all, e)
	}
	for _, c := range []struct {
		p    []api.Run
		want api.Id
	}{{at(run(1, 0, 1)), first}, {at(run(1, 0, 1), run(5, 1, 2)), by(5, 1)}, {at(run(1, 0, 3)), by(2, 0)}, {nil, first}} {
		if s, e := Of(l, c.p); e != api.OK || s != c.want {
			t.Errorf("Of(M N, %v): %v, %d", c.p, s, e)
		}
	}
	for _, c := range []struct {
		s, want api.Id
		refusal api.Errno
	}{{by(2, 0), by(5, 1), api.OK}, {first, first, api.ErrSection}, {by(9, 0), first, api.ErrSection}} {
		if s, e := Ahead(l, c.s); e != c.refusal || s != c.want {
			t.Errorf("Ahead(M N, %v): %v, %d", c.s, s, e)
		}
	}
	if from, to, e := Span(l, by(5, 1)); e != api.OK || !slices.Equal(from, n.At) || !slices.Equal(to, m.At) {
		t.Errorf("Span(M N, 5 by 1): %v, %v, %d", from, to, e)
	}
}

// P13.1, All: what is known, one by one.
func TestAllTellsKnown(t *testing.T) {
	a, m, n := insert(run(1, 0, 1)), mark(run(1, 0, 2)), mark(run(1, 0, 1), run(5, 1, 1))
	deep := mark(run(1, 0, 2), run(4, 3, 1))
	for _, c := range []struct {
		what string
		l    []api.Op
		want []api.Id
	}{
		{"none", nil, ids(first)},
		{"none that is no nil", of(), ids(first)},
		{"content alone", of(a, without(9, 0, a.At...)), ids(first)},
		{"a join alone", of(join(9, 0, m.At...)), ids(first)},
		{"a mark", of(m), ids(first, m.Id)},
		{"the first mark that may be", of(one(1, 0)), ids(first, by(1, 0))},
		{"the last mark that may be", of(one(1<<30, 7)), ids(first, by(1<<30, 7))},
		{"two that fall as their stamps rise", of(one(1, 0), one(2, 0)), ids(first, by(2, 0), by(1, 0))},
		{"two that fall by the replica", of(one(2, 0), one(2, 1)), ids(first, by(2, 1), by(2, 0))},
		{"two that rise with their stamps", of(one(1, 0), mark(run(1, 0, 2))), ids(first, by(1, 0), by(2, 0))},
		{"three, the second one in stamps last", of(m, deep, n), ids(first, n.Id, m.Id, deep.Id)},
		{"content about", of(a, m, insert(run(1, 0, 3)), deep, n, insert(run(6, 0, 1))), ids(first, n.Id, m.Id, deep.Id)},
		{"the one between joined", of(m, deep, n, join(6, 0, m.At...)), ids(first, n.Id, deep.Id)},
		{"the last one joined", of(m, deep, n, join(6, 0, deep.At...)), ids(first, n.Id, m.Id)},
		{"the first one joined", of(m, deep, n, join(6, 0, n.At...)), ids(first, m.Id, deep.Id)},
		{"all joined", of(m, deep, n, join(6, 0, m.At...), join(7, 0, n.At...), join(8, 0, deep.At...)), ids(first)},
		{"a join of what is not there", of(m, n, join(6, 0, run(3, 3, 1))), ids(first, n.Id, m.Id)},
		{"a delete of a mark", of(m, n, without(6, 0, m.At...)), ids(first, n.Id, m.Id)},
	} {
		if all, e := All(c.l); e != api.OK || !slices.Equal(all, c.want) {
			t.Errorf("All of %s: %v, %d; want %v", c.what, all, e, c.want)
		}
		asksAbout(t, c.l)
	}
}

// P13.1, Of: what is known, one by one: marks M, N and P, in order 7 by 3 (N), 4 by 2 (M), and under M 6 by 5 (P).
func TestOfTellsKnown(t *testing.T) {
	m, p, n := mark(run(1, 0, 1), run(4, 2, 1)), mark(run(1, 0, 1), run(4, 2, 2), run(6, 5, 1)), mark(run(1, 0, 1), run(7, 3, 1))
	l := of(m, p, n)
	for _, c := range []struct {
		what string
		p    []api.Run
		want api.Id
	}{
		{"the beginning", nil, first},
		{"the beginning that is no nil", at(), first},
		{"what is right behind the beginning, of all the first", at(run(1<<30, 7, 1)), first},
		{"what all marks stand under", at(run(1, 0, 1)), first},
		{"a younger one than N", at(run(1, 0, 1), run(8, 0, 1)), first},
		{"one as old as N, of a greater replica", at(run(1, 0, 1), run(7, 4, 1)), first},
		{"what stands deep under that", at(run(1, 0, 1), run(7, 4, 2), run(9, 0, 1)), first},
		{"N", n.At, n.Id},
		{"right behind N, its youngest child", at(run(1, 0, 1), run(7, 3, 1), run(1<<30, 7, 1)), n.Id},
		{"N's eldest child", at(run(1, 0, 1), run(7, 3, 1), run(8, 0, 1)), n.Id},
		{"one that goes on in N's run", at(run(1, 0, 1), run(7, 3, 2)), n.Id},
		{"one as old as N, of a lesser replica", at(run(1, 0, 1), run(7, 2, 1)), n.Id},
		{"one between N and M in age", at(run(1, 0, 1), run(5, 2, 1)), n.Id},
		{"one as old as M, of a greater replica", at(run(1, 0, 1), run(4, 3, 1)), n.Id},
		{"right ahead of M, the other one's last", at(run(1, 0, 1), run(4, 3, 9)), n.Id},
		{"M", m.At, m.Id},
		{"right behind M", at(run(1, 0, 1), run(4, 2, 1), run(1<<30, 7, 1)), m.Id},
		{"what P stands under", at(run(1, 0, 1), run(4, 2, 2)), m.Id},
		{"a younger one than P", at(run(1, 0, 1), run(4, 2, 2), run(7, 0, 1)), m.Id},
		{"one as old as P, of a greater replica", at(run(1, 0, 1), run(4, 2, 2), run(6, 6, 1)), m.Id},
		{"P", p.At, p.Id},
		{"under P", at(run(1, 0, 1), run(4, 2, 2), run(6, 5, 3)), p.Id},
		{"right behind P in its run's parent", at(run(1, 0, 1), run(4, 2, 2), run(6, 4, 1)), p.Id},
		{"the run that P left", at(run(1, 0, 1), run(4, 2, 3)), p.Id},
		{"an elder child of M", at(run(1, 0, 1), run(4, 2, 1), run(5, 1, 1)), p.Id},
		{"one as old as M, of a lesser replica", at(run(1, 0, 1), run(4, 1, 1)), p.Id},
		{"an elder brother of all", at(run(1, 0, 2)), p.Id},
		{"one behind what all stand under", at(run(1, 0, 2), run(9, 0, 1)), p.Id},
	} {
		if s, e := Of(l, c.p); e != api.OK || s != c.want {
			t.Errorf("Of %s: %v, %d; want %v", c.what, s, e, c.want)
		}
		asks(t, l, [][]api.Run{c.p}, nil)
		for _, o := range l {
			asks(t, of(o), [][]api.Run{c.p}, nil)
		}
	}
	asksAbout(t, l)
}

// P13.1, Of: where no mark is live, all is homed in the first section; so it is where all marks are behind.
func TestOfFirst(t *testing.T) {
	m := one(5, 3)
	for _, l := range [][]api.Op{nil, of(insert(run(1, 0, 1))), of(without(9, 0, run(1, 0, 1))), of(m, join(6, 0, m.At...)), of(join(4, 0, run(3, 0, 1)))} {
		for _, p := range [][]api.Run{nil, {}, at(run(1, 0, 1)), at(run(1, 0, 4096)), m.At, at(run(1<<30, 7, 1)), at(run(5, 3, 2))} {
			if s, e := Of(l, p); e != api.OK || s != first {
				t.Errorf("Of(%v, %v): %v, %d", l, p, s, e)
			}
		}
		asksAbout(t, l)
	}
	if s, e := Of(of(m), at(run(5, 4, 1))); e != api.OK || s != first {
		t.Errorf("Of, ahead of the only mark: %v, %d", s, e)
	}
}

// P13.1, Of: places that may not be, in bags that may.
func TestOfRefusesPlaces(t *testing.T) {
	m, j := mark(run(1, 0, 2)), join(6, 0, run(1, 0, 2))
	var many []api.Run
	for i := range uint32(65) {
		many = append(many, run(i+1, uint8(i%2), 1))
	}
	for _, p := range [][]api.Run{
		{{}}, at(run(0, 0, 1)), at(run(1, 8, 1)), at(run(1, 255, 1)), at(run(1, 0, 0)), at(run(1, 0, -1)), at(run(1, 0, math.MinInt)), at(run(1, 0, math.MaxInt)), at(run(1, 0, 4097)), at(run(1, 0, 1<<32+2)),
		at(run(1<<30+1, 0, 1)), at(run(1<<30, 0, 2)), at(run(math.MaxUint32, 0, 2)),
		at(run(1, 0, 1), run(2, 0, 1)), at(run(1, 0, 2), run(2, 1, 1)), at(run(1, 0, 2), run(1, 0, 2)), at(run(5, 0, 1), run(3, 1, 1)), at(run(1, 0, 2), run(5, 1, 0)), at(run(1, 0, 2), api.Run{}), at(run(1, 0, 2048), run(2050, 1, 2049)),
		many, make([]api.Run, 1<<16),
	} {
		for _, l := range [][]api.Op{nil, {}, of(insert(run(1, 0, 1))), of(m), of(m, j), of(j), of(one(1, 0), m, one(3, 0)), alone(1024, "m")} {
			if s, e := Of(l, p); e != api.ErrBad || s != first {
				t.Errorf("Of(%v, %v): %v, %d; want ErrBad", brief(l), short(p), s, e)
			}
		}
	}
	if s, e := Of(of(m), many[:64]); e != api.OK || s != first {
		t.Errorf("Of a place of 64 runs: %v, %d", s, e)
	}
}

// P13.2, Ahead and Span: the first section, the last one, those between; of one section, too.
func TestAheadAndSpanTellKnown(t *testing.T) {
	m, deep, n := mark(run(1, 0, 2)), mark(run(1, 0, 2), run(4, 3, 1)), mark(run(1, 0, 1), run(5, 1, 1))
	three := of(m, deep, n)
	for _, c := range []struct {
		what     string
		l        []api.Op
		s, ahead api.Id
		refusal  api.Errno
		from, to []api.Run
	}{
		{"the first of three", three, first, first, api.ErrSection, nil, n.At},
		{"the second", three, n.Id, first, api.OK, n.At, m.At},
		{"the third", three, m.Id, n.Id, api.OK, m.At, deep.At},
		{"the last", three, deep.Id, m.Id, api.OK, deep.At, nil},
		{"the only one", nil, first, first, api.ErrSection, nil, nil},
		{"the only one of content", of(insert(run(1, 0, 1))), first, first, api.ErrSection, nil, nil},
		{"the first of two", of(m), first, first, api.ErrSection, nil, m.At},
		{"the second of two", of(m), m.Id, first, api.OK, m.At, nil},
		{"the only one where the mark is joined", of(m, join(6, 0, m.At...)), first, first, api.ErrSection, nil, nil},
		{"one behind one that is joined", append(copied(three), join(6, 0, m.At...)), deep.Id, n.Id, api.OK, deep.At, nil},
		{"one ahead of one that is joined", append(copied(three), join(6, 0, m.At...)), n.Id, first, api.OK, n.At, deep.At},
		{"one behind the first of all, which is joined", append(copied(three), join(6, 0, n.At...)), m.Id, first, api.OK, m.At, deep.At},
		{"the last one, the one behind it joined", append(copied(three), join(6, 0, deep.At...)), m.Id, n.Id, api.OK, m.At, nil},
		{"the last stamp", of(one(1<<30, 7)), by(1<<30, 7), first, api.OK, at(run(1<<30, 7, 1)), nil},
	} {
		if s, e := Ahead(c.l, c.s); e != c.refusal || s != c.ahead {
			t.Errorf("Ahead of %s: %v, %d; want %v, %d", c.what, s, e, c.ahead, c.refusal)
		}
		from, to, e := Span(c.l, c.s)
		if e != api.OK || !slices.Equal(from, c.from) || !slices.Equal(to, c.to) {
			t.Errorf("Span of %s: %v to %v, %d; want %v to %v", c.what, from, to, e, c.from, c.to)
		}
		asksAbout(t, c.l)
	}
}

// P13.2: stamps that are no sections: of marks that are joined, of content, deletes and joins, of nothing there, of what may not be.
func TestRefusesSections(t *testing.T) {
	a, m, n := insert(run(1, 0, 1)), mark(run(1, 0, 2)), mark(run(1, 0, 1), run(5, 1, 1))
	l := of(a, m, n, join(6, 0, m.At...), without(7, 0, a.At...), without(8, 0, n.At...), join(9, 0, run(3, 3, 1)))
	for what, s := range map[string]api.Id{
		"a mark that is joined": m.Id, "an insert": a.Id, "a delete": by(7, 0), "a delete of a mark": by(8, 0), "a join": by(6, 0), "what is joined, and not there": by(3, 3),
		"nothing there": by(4, 0), "a mark's time, another replica": by(5, 0), "one more than a mark": by(6, 1), "one less": by(4, 1), "a mark's replica and eight": by(5, 9),
		"no time": by(0, 1), "no time, the last replica": by(0, 255), "too late a time": by(1<<30+1, 0), "a mark's time and 2^31": by(1<<31+5, 1), "the greatest": by(math.MaxUint32, 255),
	} {
		if x, e := Ahead(l, s); e != api.ErrSection || x != first {
			t.Errorf("Ahead of %s: %v, %d; want ErrSection", what, x, e)
		}
		if from, to, e := Span(l, s); e != api.ErrSection || len(from)+len(to) != 0 {
			t.Errorf("Span of %s: %v, %v, %d; want ErrSection", what, from, to, e)
		}
	}
	asksAbout(t, l)
}

// few is operations of which all bags are asked: marks side by side and one under another, their joins, older ones and younger ones, and content.
func few() []api.Op {
	m, n, deep := mark(run(1, 0, 2)), mark(run(1, 0, 1), run(2, 1, 1)), mark(run(1, 0, 3))
	return of(insert(run(1, 0, 1)), m, n, deep, join(3, 1, m.At...), join(4, 0, n.At...), mark(run(1, 0, 1), run(4, 1, 1)), join(4, 2, deep.At...), without(5, 1, m.At...), join(6, 0, run(5, 7, 1)))
}

// small is all places of the times 1 to 4, by two replicas, the beginning with them.
func small() [][]api.Run {
	all := [][]api.Run{nil}
	for t := range uint32(4) {
		for _, p := range all {
			all = append(all, under(p, by(t+1, 0)), under(p, by(t+1, 1)))
		}
	}
	return all
}

// P13.1, P13.2: all bags of few operations, and all small places.
func TestTellsAllOfFew(t *testing.T) {
	all := few()
	places := append(small(), at(run(5, 0, 1)), at(run(1, 0, 2), run(5, 0, 1)), at(run(1, 0, 3), run(5, 0, 1)))
	stamps := stampsAbout(all)
	for which := range 1 << len(all) {
		var l []api.Op
		for i, o := range all {
			if which>>i&1 == 1 {
				l = append(l, o)
			}
		}
		asks(t, l, places, stamps)
	}
}

// P13.1, P13.2: bags of many lengths and kinds.
func TestTellsAll(t *testing.T) {
	secs := 0
	for _, l := range some() {
		if !mayBe(l) {
			t.Fatalf("%v may not be", brief(l))
		}
		asksAbout(t, l)
		all, _ := All(l)
		secs += len(all)
	}
	if secs < 1000 {
		t.Errorf("%d sections: too few to tell", secs)
	}
}

// P13.1: marks whose places fall as their stamps rise, rise with them, and do both by turns, so many that each is searched.
func TestOfFindsAmongMany(t *testing.T) {
	var chain []api.Run
	for _, n := range []int{1, 2, 3, 4, 7, 8, 9, 40} {
		var fall, rise, both []api.Op
		chain = nil
		for i := range uint32(n) {
			fall = append(fall, one(i*2+2, 0))
			chain = under(chain, by(i*2+1, uint8(i%8)))
			rise = append(rise, mark(chain...))
			both = append(both, mark(chain...), one(i*2+2, 3))
		}
		for _, l := range [][]api.Op{fall, rise, both} {
			asksAbout(t, l)
			for _, o := range l {
				if s, e := Of(l, o.At); e != api.OK || s != o.Id {
					t.Errorf("Of a mark's own place among %d, %v: %v, %d", len(l), o.Id, s, e)
				}
			}
		}
	}
}

// P13.1, P13.2: places of the most runs and stamps, as marks and as what is homed.
func TestLongPlaces(t *testing.T) {
	var p []api.Run
	for i := range uint32(63) {
		p = append(p, run(i+1, uint8(i%2), 1))
	}
	end := func(r ...api.Run) []api.Run { return append(slices.Clone(p), r...) }
	l := of(mark(end(run(64, 1, 1))...), mark(end(run(64, 5, 1))...), mark(run(1, 0, 4094)), mark(run(1, 0, 4096)), mark(run(1, 1, 4096)), mark(run(1, 0, 4000), run(4050, 3, 96)), mark(run(1<<30-4095, 3, 4096)))
	slices.SortFunc(l, func(a, b api.Op) int {
		if before(a.Id, b.Id) {
			return -1
		}
		return 1
	})
	asks(t, l, append(placesAbout(l), end(run(64, 3, 1)), end(run(64, 1, 4033)), end(run(64, 5, 4033)), end(run(65, 0, 1)), at(run(1, 0, 4095)), at(run(1, 0, 4094), run(4096, 0, 1)), at(run(1, 0, 4094), run(4095, 1, 1)), at(run(1, 0, 4000), run(4050, 3, 95))), stampsAbout(l))
}

// P13.1, P13.2: bags of 1023, of 1024, and of more, which may not be.
func TestComesToMaxOps(t *testing.T) {
	for _, c := range []struct {
		kinds string
		secs  int
	}{{"m", 1025}, {"i", 1}, {"d", 1}, {"j", 1}, {"mj", 1}, {"mi", 513}, {"mdj", 343}} {
		l := alone(1024, c.kinds)
		if all, e := All(l); e != api.OK || len(all) != c.secs {
			t.Errorf("All of 1024 of %s: %d, %d; want %d", c.kinds, len(all), e, c.secs)
		}
		asksAbout(t, l)
		asks(t, l[:1023], [][]api.Run{nil, l[9].At, l[1022].At, l[1023].At}, ids(first, l[9].Id, l[1022].Id, l[1023].Id))
		for _, n := range []int{1025, 1026, 2048} {
			refusesAll(t, "more than may be", alone(n, c.kinds))
		}
	}
	asksAbout(t, grown(1024, 3, "imdj"))
	refusesAll(t, "one more than may be", grown(1025, 3, "imdj"))
}

// refusesAll asks whether all calls refuse a bag, whatever place or stamp is told with it, and answer nothing beside the error.
func refusesAll(t *testing.T, what string, l []api.Op) {
	t.Helper()
	if mayBe(l) {
		t.Fatalf("%s may be: %v", what, brief(l))
	}
	asksAbout(t, l)
	for _, p := range [][]api.Run{nil, at(run(1, 0, 1)), at(run(9, 9, 9)), at(run(1, 0, 4097)), make([]api.Run, 65)} {
		if s, e := Of(l, p); e != api.ErrBad || s != first {
			t.Errorf("Of %s, %v: %v, %d; want ErrBad", what, short(p), s, e)
		}
	}
	for _, s := range ids(first, by(0, 9), by(1, 0), by(1, 8), by(9, 0), by(math.MaxUint32, 255)) {
		if x, e := Ahead(l, s); e != api.ErrBad || x != first {
			t.Errorf("Ahead of %s, %v: %v, %d; want ErrBad", what, s, x, e)
		}
		if from, to, e := Span(l, s); e != api.ErrBad || len(from)+len(to) != 0 {
			t.Errorf("Span of %s, %v: %v, %v, %d; want ErrBad", what, s, short(from), short(to), e)
		}
	}
	if all, e := All(l); e != api.ErrBad || len(all) != 0 {
		t.Errorf("All of %s: %v, %d; want ErrBad", what, all, e)
	}
}

// bad is operations that may not be.
func bad() []api.Op {
	return []api.Op{
		{}, {Kind: 2, Id: by(9, 0)}, {Kind: 2, Id: by(9, 0), At: at()}, {Kind: 255, Id: by(math.MaxUint32, 255), Point: math.MinInt},
		{Kind: 0, Id: by(9, 0), At: at(run(9, 0, 1))}, {Kind: 5, Id: by(9, 0), At: at(run(9, 0, 1))}, {Kind: 130, Id: by(9, 0), At: at(run(9, 0, 1))},
		{Kind: 2, Id: by(9, 0), At: at(run(8, 0, 1))}, {Kind: 2, Id: by(9, 0), At: at(run(9, 0, 1)), Point: 1}, {Kind: 4, Id: by(9, 0), At: at(run(1, 0, 1)), Point: 97},
		mark(run(0, 0, 1)), mark(run(9, 8, 1)), mark(run(1<<30+1, 0, 1)), mark(run(9, 0, 0)), mark(run(9, 0, math.MaxInt)), mark(run(1, 0, 4097)), mark(run(8, 0, 1), run(9, 0, 1)),
		{Kind: 1, Id: by(9, 0), At: at(run(9, 0, 1)), Point: 0xd800}, without(9, 0, run(9, 0, 1)), join(9, 0, run(9, 0, 1)), join(9, 7, run(1, 0, 9)), join(9, 8, run(1, 0, 1)),
	}
}

// P1, P13.1, P13.2: bags that may not be are refused by each of the four calls.
func TestAllRefuseWrongs(t *testing.T) {
	m, n, j := one(1, 0), one(2, 0), join(3, 1, run(1, 0, 1))
	back := grown(40, 6, "imdj")
	slices.Reverse(back)
	for what, l := range map[string][]api.Op{
		"two whose stamps fall":         of(n, m),
		"two that fall by the replica":  of(one(2, 1), one(2, 0)),
		"a mark twice":                  of(m, m),
		"a join ahead of its mark":      of(j, m),
		"a mark and content of a stamp": of(m, insert(run(1, 0, 1)), j),
		"all in another order":          back,
		"very many":                     alone(1<<16, "mj"),
		"very many of nothing":          make([]api.Op, 1<<16),
	} {
		refusesAll(t, what, l)
	}
	for _, o := range bad() {
		if op.Check(o) != api.ErrBad {
			t.Fatalf("%v may be", o)
		}
		refusesAll(t, "one that may not be", of(o))
		refusesAll(t, "one that may not be ahead", of(o, m, n, j))
		refusesAll(t, "one that may not be in the middle", of(m, n, j, o, one(1<<29, 0)))
		refusesAll(t, "one that may not be at the end", of(m, n, j, o))
	}
}

// standing is places about a bag that may be, in their order, each once.
func standing(l []api.Op) [][]api.Run {
	var out [][]api.Run
	for _, p := range placesAbout(l) {
		if len(p) == 0 || place.Check(p) == api.OK {
			out = append(out, p)
		}
	}
	slices.SortFunc(out, func(p, q []api.Run) int {
		switch {
		case ahead(p, q):
			return -1
		case ahead(q, p):
			return 1
		}
		return 0
	})
	return slices.CompactFunc(out, slices.Equal)
}

// homeOf is what Of answers, of what may be.
func homeOf(t *testing.T, l []api.Op, p []api.Run) api.Id {
	t.Helper()
	s, e := Of(l, p)
	if e != api.OK {
		t.Fatalf("Of(%v, %v): %d", brief(l), short(p), e)
	}
	return s
}

// P13.4: sections stand one behind the other: each begins where the one that Ahead tells ends, each mark in its own; the first from the beginning, the last without end.
func TestSectionsFollowEachOther(t *testing.T) {
	for _, l := range some() {
		all, e := All(l)
		if e != api.OK || len(all) == 0 || all[0] != first {
			t.Fatalf("All of %v: %v, %d", brief(l), all, e)
		}
		var end []api.Run
		for i, s := range all {
			from, to, e := Span(l, s)
			if e != api.OK || !slices.Equal(from, end) || len(to) == 0 != (i == len(all)-1) {
				t.Fatalf("Span of %v in %v: %v to %v, %d; the one ahead ends at %v", s, brief(l), from, to, e, end)
			}
			if homeOf(t, l, from) != s || endOf(from) != s {
				t.Fatalf("%v begins at %v in %v, and that is homed in %v", s, from, brief(l), homeOf(t, l, from))
			}
			if i > 0 {
				if x, e := Ahead(l, s); e != api.OK || x != all[i-1] {
					t.Fatalf("Ahead(%v, of %v): %v, %d; want %v", brief(l), s, x, e, all[i-1])
				}
			}
			end = to
		}
	}
}

// P13.4: each place stands in the span of its home, and in no other one; of two places the one ahead is homed no further behind.
func TestEachPlaceHasOneHome(t *testing.T) {
	for _, l := range some() {
		all, _ := All(l)
		var from, to [][]api.Run
		for _, s := range all {
			a, b, _ := Span(l, s)
			from, to = append(from, a), append(to, b)
		}
		was := 0
		for _, p := range standing(l) {
			home, in := homeOf(t, l, p), 0
			for i, s := range all {
				if ahead(p, from[i]) || len(to[i]) > 0 && !ahead(p, to[i]) {
					continue
				}
				in++
				if s != home || i < was {
					t.Fatalf("%v stands in the span of %v in %v, and is homed in %v", short(p), s, brief(l), home)
				}
				was = i
			}
			if in != 1 {
				t.Fatalf("%v stands in %d spans in %v", short(p), in, brief(l))
			}
		}
	}
}

// more is a bag with an operation more, which it may not refuse.
func more(t *testing.T, l []api.Op, o api.Op) []api.Op {
	t.Helper()
	with, e := bag.Add(l, o)
	if e != api.OK || len(with) != len(l)+1 {
		t.Fatalf("Add of %v to %v: %d", o, brief(l), e)
	}
	return with
}

// marksAbout is marks that a bag has not, of stamps on all sides of its own, that stand at places about it.
func marksAbout(l []api.Op) []api.Op {
	var out []api.Op
	for _, p := range placesAbout(l) {
		m := mark(p...)
		has := slices.ContainsFunc(l, func(o api.Op) bool { return o.Id == m.Id })
		if !has && op.Check(m) == api.OK {
			out = append(out, m)
		}
	}
	return out
}

// P13.4: a mark more homes all that stands from it on to its section's end in its own one, and nothing else.
func TestMarkAdded(t *testing.T) {
	moved, left := 0, 0
	for _, l := range some() {
		if len(l) > 8 {
			continue
		}
		places := standing(l)
		secs := inWords(l)
		for i, m := range marksAbout(l) {
			// A longer bag has too many about it to try each. A mark that is joined ahead of its coming is another test's.
			if len(l) > 3 && i%7 > 0 || slices.ContainsFunc(l, func(o api.Op) bool { return o.Kind == 4 && endOf(o.At) == m.Id }) {
				continue
			}
			with := more(t, l, m)
			old, _ := homeInWords(secs, m.At)
			for _, p := range places {
				want, _ := homeInWords(secs, p)
				if want == old && !ahead(p, m.At) {
					want = m.Id
					moved++
				} else {
					left++
				}
				if s := homeOf(t, with, p); s != want {
					t.Fatalf("%v with %v more homes %v in %v; want %v", brief(l), m, short(p), s, want)
				}
			}
		}
	}
	if moved < 1000 || left < 1000 {
		t.Errorf("%d homed elsewhere, %d left: too few to tell", moved, left)
	}
}

// P13.4: a join more homes what stood in its mark's section in the one ahead, and nothing else; all marks joined, one by one, leave the first section.
func TestJoinAdded(t *testing.T) {
	moved, left := 0, 0
	for _, l := range some() {
		if len(l) > 13 {
			continue
		}
		places := standing(l)
		for secs := inWords(l); len(secs) > 1; secs = inWords(l) {
			i := 1 + len(l)%(len(secs)-1)
			with := more(t, l, join(1<<29+uint32(len(l)), 5, secs[i].from...))
			for _, p := range places {
				want, _ := homeInWords(secs, p)
				if want == secs[i].id {
					want = secs[i-1].id
					moved++
				} else {
					left++
				}
				if s := homeOf(t, with, p); s != want {
					t.Fatalf("%v with %v joined homes %v in %v; want %v", brief(l), secs[i].id, short(p), s, want)
				}
			}
			if _, _, e := Span(with, secs[i].id); e != api.ErrSection {
				t.Fatalf("%v is a section where it is joined: %d", secs[i].id, e)
			}
			l = with
		}
	}
	if moved < 1000 || left < 1000 {
		t.Errorf("%d homed elsewhere, %d left: too few to tell", moved, left)
	}
}

// P13.4: what is no mark, and no join of a live one, homes nothing elsewhere: content, a mark that is joined, a join more of it, one of nothing there.
func TestOtherAddedHomesNothing(t *testing.T) {
	m := mark(run(1, 0, 2))
	for _, l := range [][]api.Op{
		of(one(1, 0), join(4, 0, m.At...), mark(run(1, 0, 1), run(5, 1, 1))),
		of(one(1, 0), join(4, 0, m.At...), mark(run(1, 0, 2), run(5, 1, 1)), one(6, 6)),
	} {
		for _, o := range of(m, join(7, 0, m.At...), join(7, 0, run(3, 3, 1)), insert(run(1, 0, 3)), insert(run(7, 0, 1)), without(7, 0, run(1, 0, 1)), without(1<<30, 7, l[2].At...)) {
			with := more(t, l, o)
			for _, p := range append(standing(with), small()...) {
				if s, was := homeOf(t, with, p), homeOf(t, l, p); s != was {
					t.Errorf("%v with %v more homes %v in %v; it was %v", l, o, p, s, was)
				}
			}
			asks(t, with, nil, stampsAbout(with))
		}
	}
}

// copied is operations in new memory.
func copied(l []api.Op) []api.Op {
	var out []api.Op
	for _, o := range l {
		o.At = slices.Clone(o.At)
		out = append(out, o)
	}
	return out
}

// memory is a bag's, with what lies around it: other operations, and, around each place, other runs.
type memory struct {
	ops    []api.Op
	places [][]api.Run
}

// lay is a bag as it is, in memory where others are around.
func lay(l []api.Op) (memory, []api.Op) {
	m := memory{ops: slices.Concat(of(one(1, 0)), l, of(one(1<<30, 6), one(1<<30, 7)))}
	for i, o := range l {
		p := slices.Concat(at(run(1, 0, 1)), o.At, at(run(9, 9, 9), run(8, 8, 8)))
		m.places = append(m.places, p)
		m.ops[1+i].At = p[1 : 1+len(o.At)]
	}
	return m, m.ops[1 : 1+len(l)]
}

// copied is a memory as it is now.
func (m memory) copied() memory {
	was := memory{ops: slices.Clone(m.ops)}
	for _, p := range m.places {
		was.places = append(was.places, slices.Clone(p))
	}
	return was
}

// same is whether nothing was changed: no number, and no place is another memory's.
func (m memory) same(was memory) bool {
	for i, p := range m.places {
		in := m.ops[1+i].At
		if !slices.Equal(p, was.places[i]) || len(in) > 0 && &in[0] != &p[1] {
			return false
		}
	}
	return slices.EqualFunc(m.ops, was.ops, func(a, b api.Op) bool {
		return a.Kind == b.Kind && a.Id == b.Id && a.Point == b.Point && slices.Equal(a.At, b.At)
	})
}

// spoil writes over all that a place has room for.
func spoil(p []api.Run) {
	p = p[:cap(p)]
	for i := range p {
		p[i] = run(77, 7, 77)
	}
}

// P13.3: bags are only read, by each call, such as may not be too.
func TestOnlyReadsBags(t *testing.T) {
	bags := some()
	for _, o := range bad() {
		bags = append(bags, of(one(1, 0), join(3, 0, run(1, 0, 1)), o, one(1<<29, 0)))
	}
	for _, l := range bags {
		m, in := lay(l)
		was := m.copied()
		for _, p := range placesAbout(l)[:min(len(l)+9, 40)] {
			Of(in, p)
		}
		for _, s := range stampsAbout(l)[:min(len(l)+9, 40)] {
			Ahead(in, s)
			Span(in, s)
		}
		for _, o := range l {
			Of(in, o.At)
			Ahead(in, o.Id)
			Span(in, o.Id)
		}
		All(in)
		if !m.same(was) {
			t.Fatalf("%v is turned", brief(l))
		}
	}
}

// P13.3: the place that is handed to Of is only read, one of the bag's own too.
func TestOfOnlyReadsPlace(t *testing.T) {
	for _, l := range some() {
		for _, p := range placesAbout(l)[:min(len(l)+9, 40)] {
			all := slices.Concat(at(run(1, 0, 1)), p, at(run(9, 9, 9)))
			was := slices.Clone(all)
			Of(l, all[1:1+len(p)])
			if !slices.Equal(all, was) {
				t.Fatalf("Of(%v, %v) turns the place: %v", brief(l), was, all)
			}
		}
		m, in := lay(l)
		was := m.copied()
		for _, o := range in {
			Of(in, o.At)
		}
		if !m.same(was) {
			t.Fatalf("%v is turned", brief(l))
		}
	}
}

// P13.3: what All answers stays as it is when the bag is changed behind the call, or another answer is by its caller.
func TestAllIsNewMemory(t *testing.T) {
	for _, l := range some() {
		m, in := lay(l)
		was := m.copied()
		one, _ := All(in)
		two, _ := All(in)
		want := slices.Clone(two)
		one = one[:cap(one)]
		for i := range one {
			one[i] = by(77, 7)
		}
		if !m.same(was) || !slices.Equal(two, want) {
			t.Fatalf("All of %v shares memory", brief(l))
		}
		for i := range m.ops {
			m.ops[i].Id = by(78, 6)
		}
		if !slices.Equal(two, want) {
			t.Fatalf("All of %v changes with what was handed in", brief(l))
		}
	}
}

// P13.3: so it is with the places that Span answers, each by itself.
func TestSpanIsNewMemory(t *testing.T) {
	for _, l := range some() {
		for _, s := range inWords(l) {
			m, in := lay(l)
			was := m.copied()
			from, to, _ := Span(in, s.id)
			from2, to2, _ := Span(in, s.id)
			end := slices.Clone(to)
			spoil(from)
			if !slices.Equal(to, end) {
				t.Fatalf("the places of Span(%v, of %v) share memory", brief(l), s.id)
			}
			spoil(to)
			if !m.same(was) || !slices.Equal(from2, s.from) || !slices.Equal(to2, end) {
				t.Fatalf("Span(%v, of %v) shares memory", brief(l), s.id)
			}
			for _, p := range m.places {
				spoil(p)
			}
			if !slices.Equal(from2, s.from) || !slices.Equal(to2, end) {
				t.Fatalf("Span(%v, of %v) changes with what was handed in", brief(l), s.id)
			}
		}
	}
}

// P1, P2: nothing is kept from call to call: not the marks of another bag, not an error.
func TestKeepsNothing(t *testing.T) {
	l := some()
	for i := range l {
		asksAbout(t, l[len(l)-1-i][:min(3, len(l[len(l)-1-i]))])
	}
	m := one(5, 0)
	for range 3 {
		if s := homeOf(t, of(m), m.At); s != m.Id {
			t.Fatalf("Of a mark's place: %v", s)
		}
		refusesAll(t, "one twice", of(m, m))
		if s := homeOf(t, of(m, join(6, 0, m.At...)), m.At); s != first {
			t.Fatalf("Of the place of one that is joined: %v", s)
		}
	}
}

// bagFrom is a bag of what bytes tell: each four a kind, a stamp, and an element to stand under or to take away.
func bagFrom(b []byte) []api.Op {
	var l []api.Op
	places := [][]api.Run{nil}
	id := by(0, 7)
	for ; len(b) >= 4; b = b[4:] {
		if r := b[1] % 8; r > id.R && b[1] >= 128 {
			id.R = r
		} else {
			id = by(id.T+1+uint32(b[1]>>5), r)
		}
		p := places[int(b[2])%len(places)]
		o := api.Op{Kind: b[0] % 6, Id: id, At: p}
		switch {
		case o.Kind < 3:
			o.At = under(p, id)
			places = append(places, o.At)
		case endOf(p).T == 0:
			o.At = at(run(uint32(b[3]), b[2]%8, 1))
		}
		if o.Kind == 1 {
			o.Point = int(b[3])
		}
		l = append(l, o)
	}
	return l
}

// P1, P13.1 to P13.4: whatever bag, place and stamp, such as may not be too.
func FuzzOf(f *testing.F) {
	f.Add([]byte{2, 0, 0, 0, 2, 1, 1, 0, 4, 0, 1, 0}, uint32(1), uint8(0), 1, uint32(2), uint8(1), 1)
	f.Add([]byte{1, 0, 0, 97, 2, 0, 1, 0, 2, 1, 1, 0, 4, 129, 2, 0, 4, 2, 2, 0, 3, 0, 3, 0}, uint32(2), uint8(1), 3, uint32(0), uint8(0), 0)
	f.Add([]byte{5, 0, 0, 0}, uint32(0), uint8(0), 0, uint32(1<<30), uint8(7), 1)
	f.Add([]byte{4, 64, 0, 1, 2, 3, 0, 2, 2, 9, 0, 0}, uint32(1), uint8(1), 4096, uint32(4097), uint8(0), 1)
	f.Fuzz(func(t *testing.T, b []byte, time uint32, r uint8, many int, time2 uint32, r2 uint8, many2 int) {
		// Long ones are asked elsewhere: here many are, fast.
		l := bagFrom(b[:min(len(b), 160)])
		m, in := lay(l)
		was := m.copied()
		p, q := run(time, r, many), run(time2, r2, many2)
		places := append(placesAbout(l), at(p), at(q), at(p, q))
		asks(t, in, places, append(stampsAbout(l), by(time, r), by(time2, r2)))
		if !m.same(was) {
			t.Fatalf("%v is turned", brief(l))
		}
	})
}
