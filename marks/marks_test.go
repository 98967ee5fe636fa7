package marks

import (
	"math"
	"slices"
	"testing"

	"octavo/api"
	"octavo/bag"
	"octavo/clock"
	"octavo/op"
)

// run is so many stamps by r from t on.
func run(t uint32, r uint8, many int) api.Run {
	return api.Run{T: t, R: r, Many: many}
}

// at is a place of some runs.
func at(l ...api.Run) []api.Run {
	return l
}

// by is a stamp.
func by(t uint32, r uint8) api.Id {
	return api.Id{T: t, R: r}
}

// of is a bag of some operations.
func of(l ...api.Op) []api.Op {
	return l
}

// endOf is the last stamp of a place; the zero one, if it has none.
func endOf(p []api.Run) api.Id {
	if len(p) == 0 {
		return by(0, 0)
	}
	r := p[len(p)-1]
	return by(r.T+uint32(r.Many)-1, r.R)
}

func insert(point int, p ...api.Run) api.Op {
	return api.Op{Kind: 1, Id: endOf(p), At: p, Point: point}
}

func mark(p ...api.Run) api.Op {
	return api.Op{Kind: 2, Id: endOf(p), At: p}
}

func without(t uint32, r uint8, p ...api.Run) api.Op {
	return api.Op{Kind: 3, Id: by(t, r), At: p}
}

func join(t uint32, r uint8, p ...api.Run) api.Op {
	return api.Op{Kind: 4, Id: by(t, r), At: p}
}

// one is a mark right behind the beginning.
func one(t uint32, r uint8) api.Op {
	return mark(run(t, r, 1))
}

// times is a replica's, from each even one of numbers to the one behind it.
func times(r uint8, l ...uint32) api.Times {
	x := api.Times{R: r}
	for i := 0; i < len(l); i += 2 {
		x.Spans = append(x.Spans, api.Span{From: l[i], To: l[i+1]})
	}
	return x
}

// before is whether one stamp is less than another one, by the words of chapter 5.
func before(a, b api.Id) bool {
	return a.T < b.T || a.T == b.T && a.R < b.R
}

// stampsOf is the stamps of a place that may be.
func stampsOf(p []api.Run) []api.Id {
	var l []api.Id
	for _, r := range p {
		for n := range r.Many {
			l = append(l, by(r.T+uint32(n), r.R))
		}
	}
	return l
}

// ahead is whether one place is ahead of another one, by the words of chapter 6.
func ahead(p, q []api.Run) bool {
	a, b := stampsOf(p), stampsOf(q)
	for i := range min(len(a), len(b)) {
		if a[i] != b[i] {
			return before(b[i], a[i])
		}
	}
	return len(a) < len(b)
}

// mayBe is what bags that may be are, by the words of chapter 11.
func mayBe(l []api.Op) bool {
	for i, o := range l {
		if op.Check(o) != api.OK || i > 0 && !before(l[i-1].Id, o.Id) {
			return false
		}
	}
	return len(l) <= 1024
}

// joinedInWords is what Joined has to answer.
func joinedInWords(l []api.Op, id api.Id) bool {
	return mayBe(l) && slices.ContainsFunc(l, func(o api.Op) bool { return o.Kind == 4 && endOf(o.At) == id })
}

// liveInWords is what Live has to answer: of what is not joined each time the one that none is ahead of.
func liveInWords(l []api.Op) ([]api.Op, api.Errno) {
	if !mayBe(l) {
		return nil, api.ErrBad
	}
	gone := map[api.Id]int{}
	for _, o := range l {
		if o.Kind == 4 {
			gone[endOf(o.At)]++
		}
	}
	var out []api.Op
	for _, o := range l {
		if o.Kind != 2 || gone[o.Id] > 0 {
			continue
		}
		i := slices.IndexFunc(out, func(x api.Op) bool { return ahead(o.At, x.At) })
		if i < 0 {
			i = len(out)
		}
		out = slices.Insert(out, i, o)
	}
	return out, api.OK
}

// idsInWords is what Ids has to answer.
func idsInWords(l []api.Op) ([]api.Times, api.Errno) {
	if !mayBe(l) {
		return nil, api.ErrBad
	}
	var c []api.Times
	for r := range uint8(8) {
		var spans []api.Span
		for _, o := range l {
			end := len(spans) - 1
			switch {
			case o.Id.R != r || o.Kind != 2 && o.Kind != 4:
			case end >= 0 && spans[end].To+1 == o.Id.T:
				spans[end].To++
			default:
				spans = append(spans, api.Span{From: o.Id.T, To: o.Id.T})
			}
		}
		if len(spans) > 0 {
			c = append(c, api.Times{R: r, Spans: spans})
		}
	}
	return c, api.OK
}

// equalOp is whether two operations are the same in all fields.
func equalOp(a, b api.Op) bool {
	return a.Kind == b.Kind && a.Id == b.Id && a.Point == b.Point && slices.Equal(a.At, b.At)
}

// equal is whether two lists of operations are.
func equal(a, b []api.Op) bool {
	return slices.EqualFunc(a, b, equalOp)
}

// equalClock is whether two clocks are.
func equalClock(a, b []api.Times) bool {
	return slices.EqualFunc(a, b, func(x, y api.Times) bool { return x.R == y.R && slices.Equal(x.Spans, y.Spans) })
}

// copied is operations in new memory.
func copied(l []api.Op) []api.Op {
	var out []api.Op
	for _, o := range l {
		o.At = append([]api.Run{}, o.At...)
		out = append(out, o)
	}
	return out
}

// brief is as much of some operations as is short enough to be told.
func brief(l []api.Op) []api.Op {
	l = slices.Clone(l[:min(len(l), 12)])
	for i, o := range l {
		l[i].At = o.At[:min(len(o.At), 5)]
	}
	return l
}

// lives asks whether Live answers what it has to.
func lives(t *testing.T, l []api.Op) {
	t.Helper()
	want, refusal := liveInWords(l)
	if x, e := Live(l); e != refusal || !equal(x, want) {
		t.Fatalf("Live of %d, %v: %d, %v, %d; want %d, %v, %d", len(l), brief(l), len(x), brief(x), e, len(want), brief(want), refusal)
	}
}

// joinedTells asks whether Joined answers what it has to.
func joinedTells(t *testing.T, l []api.Op, id api.Id) {
	t.Helper()
	if want := joinedInWords(l, id); Joined(l, id) != want {
		t.Fatalf("Joined of %d, %v, of %v: %t", len(l), brief(l), id, !want)
	}
}

// idsTell asks whether Ids answer what they have to.
func idsTell(t *testing.T, l []api.Op) {
	t.Helper()
	want, refusal := idsInWords(l)
	if c, e := Ids(l); e != refusal || !equalClock(c, want) {
		t.Fatalf("Ids of %d, %v: %v, %d; want %v, %d", len(l), brief(l), c, e, want, refusal)
	}
}

// asks asks all three calls, and Joined of some stamps.
func asks(t *testing.T, l []api.Op, ids []api.Id) {
	t.Helper()
	lives(t, l)
	idsTell(t, l)
	for _, id := range ids {
		joinedTells(t, l, id)
	}
}

// stampsAbout is stamps of the edges, of a bag's operations, and of all the places in it, with those beside them.
func stampsAbout(l []api.Op) []api.Id {
	out := edges()
	for i, o := range l {
		if len(l) > 60 && i > 9 && i < len(l)-9 && i%37 != 0 {
			continue
		}
		for _, id := range append(stampsOf(o.At[:min(len(o.At), 3)])[:min(len(o.At), 3)], endOf(o.At), o.Id) {
			out = append(out, id, by(id.T-1, id.R), by(id.T+1, id.R), by(id.T, id.R^1), by(id.T, id.R+8), by(id.T+1<<31, id.R))
		}
	}
	return out
}

// edges is stamps at the ends of what may be, and such as may not be.
func edges() []api.Id {
	return []api.Id{by(0, 0), by(0, 1), by(0, 255), by(1, 0), by(1, 7), by(1, 8), by(1<<30, 0), by(1<<30, 7), by(1<<30, 8), by(1<<30+1, 0), by(1<<31, 0), by(math.MaxUint32, 0), by(math.MaxUint32, 255)}
}

// dice are numbers that look like chance, and are the same each time.
type dice struct {
	n uint32
}

func (d *dice) under(n int) int {
	d.n = d.n*1664525 + 1013904223
	return int(d.n>>8) % n
}

// under is the place of a child, by the words of chapter 6.
func under(p []api.Run, id api.Id) []api.Run {
	q := slices.Clone(p)
	if end := len(q) - 1; end >= 0 && endOf(q) == by(id.T-1, id.R) {
		q[end].Many++
		return q
	}
	return append(q, run(id.T, id.R, 1))
}

// grown is a bag of so many operations of all kinds: elements under others, and what takes elements away that are there, or are not; kinds tells how the kinds are shared out.
func grown(n int, seed uint32, kinds string) []api.Op {
	d := &dice{seed}
	var l []api.Op
	places := [][]api.Run{nil}
	id := by(3, 0)
	for range n {
		id = nextOf(d, id)
		p := places[d.under(len(places))]
		// Most elements stand under young ones.
		if d.under(3) > 0 {
			p = places[max(0, len(places)-1-d.under(4))]
		}
		if endOf(p).T >= id.T || len(p) > 60 {
			p = nil
		}
		switch kinds[d.under(len(kinds))] {
		case 'i':
			l = append(l, insert(97+d.under(26), under(p, id)...))
		case 'm':
			l = append(l, mark(under(p, id)...))
		case 'd':
			l = append(l, without(id.T, id.R, goal(d, p)...))
		case 'j':
			l = append(l, join(id.T, id.R, goal(d, p)...))
		}
		if o := l[len(l)-1]; o.Kind < 3 {
			places = append(places, o.At)
		}
	}
	return l
}

// nextOf is a stamp behind one: of the same time, the next one, or later.
func nextOf(d *dice, id api.Id) api.Id {
	if d.under(4) == 0 && id.R < 7 {
		return by(id.T, id.R+1)
	}
	if d.under(2) == 0 {
		return by(id.T+1, id.R)
	}
	return by(id.T+1+uint32(d.under(3)), uint8(d.under(8)))
}

// goal is a place that is taken away: that of an element, or one that none has; seldom one of its stamp that stands elsewhere.
func goal(d *dice, p []api.Run) []api.Run {
	end := endOf(p)
	switch {
	case len(p) == 0:
		return at(run(uint32(1+d.under(2)), uint8(d.under(8)), 1))
	case d.under(9) == 0:
		return at(run(end.T, end.R, 1))
	}
	return p
}

// kindsAll is how the kinds of bags are shared out.
func kindsAll() []string {
	return []string{"m", "j", "i", "d", "id", "mj", "imj", "imdj", "mmmmj", "mjjj", "iiiidddmj", "immmd", "ijjd"}
}

// some is bags of many lengths and kinds.
func some() [][]api.Op {
	l := [][]api.Op{nil, {}}
	for i, kinds := range kindsAll() {
		for k, n := range []int{1, 2, 3, 5, 8, 13, 40, 120} {
			for turn := range uint32(4) {
				l = append(l, grown(n, uint32(i*1000+k*100)+turn, kinds))
			}
		}
	}
	return l
}

// alone is so many operations of one kind, or of two in turn.
func alone(n int, kinds string) []api.Op {
	var l []api.Op
	for i := range n {
		t := uint32(i + 10)
		switch kinds[i%len(kinds)] {
		case 'i':
			l = append(l, insert(97, run(t, 1, 1)))
		case 'm':
			l = append(l, one(t, 1))
		case 'd':
			l = append(l, without(t, 1, run(t-1, 1, 1)))
		case 'j':
			l = append(l, join(t, 1, run(t-1, 1, 1)))
		}
	}
	return l
}

// P12.1, Live: what is known, one by one.
func TestLiveTellsKnown(t *testing.T) {
	a := insert(97, run(1, 0, 1))
	m, n := mark(run(1, 0, 2)), mark(run(1, 0, 1), run(5, 1, 1))
	deep := mark(run(1, 0, 2), run(4, 3, 1))
	for _, c := range []struct {
		what    string
		l, want []api.Op
	}{
		{"none", nil, nil},
		{"none that is no nil", of(), nil},
		{"an insert", of(a), nil},
		{"a delete", of(without(9, 0, run(1, 0, 1))), nil},
		{"a join", of(join(9, 0, run(1, 0, 1))), nil},
		{"a mark", of(m), of(m)},
		{"the first mark that may be", of(one(1, 0)), of(one(1, 0))},
		{"the last mark that may be", of(one(1<<30, 7)), of(one(1<<30, 7))},
		{"two that fall", of(one(1, 0), one(2, 0)), of(one(2, 0), one(1, 0))},
		{"two that fall by the replica", of(one(2, 0), one(2, 1)), of(one(2, 1), one(2, 0))},
		{"a child, behind its parent", of(mark(run(1, 0, 1)), mark(run(1, 0, 2))), of(mark(run(1, 0, 1)), mark(run(1, 0, 2)))},
		{"a younger one under the same parent, ahead", of(a, m, n), of(n, m)},
		{"one under the elder one, behind that", of(a, m, deep, n), of(n, m, deep)},
		{"one under the elder one that is joined", of(a, m, deep, n, join(7, 0, m.At...)), of(n, deep)},
		{"one joined", of(a, m, n, join(6, 1, m.At...)), of(n)},
		{"the other one joined", of(a, m, n, join(6, 1, n.At...)), of(m)},
		{"both joined", of(a, m, n, join(6, 1, n.At...), join(6, 2, m.At...)), nil},
		{"one joined twice", of(a, m, n, join(6, 1, m.At...), join(7, 2, m.At...)), of(n)},
		{"one joined twice at one time", of(m, n, join(6, 1, m.At...), join(6, 2, m.At...)), of(n)},
		{"one joined by one that is older than the other one", of(a, m, join(3, 1, m.At...), n), of(n)},
		{"one joined by one as old as the other one", of(a, m, join(5, 0, m.At...), n), of(n)},
		{"one joined by one as old as the other one, and a later replica's", of(a, m, n, join(5, 2, m.At...)), of(n)},
		{"one joined at the last time", of(a, m, n, join(1<<30, 7, m.At...)), of(n)},
		{"a join of what is not there", of(a, m, n, join(9, 0, run(7, 7, 1))), of(n, m)},
		{"a join of content", of(a, m, n, join(9, 0, a.At...)), of(n, m)},
		{"a join of content with the time of a mark", of(insert(97, run(2, 1, 1)), one(2, 2), join(9, 0, run(2, 1, 1))), of(one(2, 2))},
		{"a join of a stamp that another place ends with", of(a, m, n, join(9, 0, run(2, 0, 1))), of(n)},
		{"a join of a stamp under a mark", of(a, m, join(9, 0, run(1, 0, 3))), of(m)},
		{"a join of a join", of(m, join(5, 0, m.At...), join(9, 0, run(1, 0, 2), run(5, 0, 1))), nil},
		{"a join of a join of what is not there", of(m, join(5, 0, run(4, 7, 1)), join(9, 0, run(5, 0, 1))), of(m)},
		{"a join of nobody's delete", of(m, without(5, 0, m.At...), join(9, 0, run(5, 0, 1))), of(m)},
		{"a delete of a mark", of(a, m, n, without(9, 0, m.At...)), of(n, m)},
		{"a delete of a mark, and a join of the other one", of(a, m, n, join(8, 0, n.At...), without(9, 0, m.At...)), of(m)},
		{"inserts between", of(a, m, insert(98, run(1, 0, 3)), n, insert(99, run(6, 0, 1))), of(n, m)},
	} {
		x, e := Live(c.l)
		if e != api.OK || !equal(x, c.want) {
			t.Errorf("Live of %s: %v, %d; want %v", c.what, x, e, c.want)
		}
		asks(t, c.l, stampsAbout(c.l))
	}
}

// P12.1, Joined: what is known, one by one.
func TestJoinedTellsKnown(t *testing.T) {
	a, m, n := insert(97, run(1, 0, 1)), mark(run(1, 0, 2)), mark(run(1, 0, 1), run(5, 1, 1))
	for _, c := range []struct {
		what   string
		l      []api.Op
		joined []api.Id
	}{
		{"none", nil, nil},
		{"marks alone", of(m, n), nil},
		{"content alone", of(a, without(9, 0, a.At...)), nil},
		{"a delete of a mark", of(m, without(9, 0, m.At...)), nil},
		{"a mark that is joined", of(m, n, join(6, 1, m.At...)), []api.Id{by(2, 0)}},
		{"a mark that is joined twice", of(m, n, join(6, 1, m.At...), join(6, 2, m.At...)), []api.Id{by(2, 0)}},
		{"two that are joined", of(m, n, join(6, 1, m.At...), join(6, 2, n.At...)), []api.Id{by(2, 0), by(5, 1)}},
		{"one that is not there", of(join(6, 1, m.At...)), []api.Id{by(2, 0)}},
		{"one that is not there, of more runs", of(join(6, 1, n.At...)), []api.Id{by(5, 1)}},
		{"one that is not there, where others are", of(a, n, join(6, 1, m.At...)), []api.Id{by(2, 0)}},
		{"one that content has", of(a, m, join(6, 1, a.At...)), []api.Id{by(1, 0)}},
		{"one that a delete has", of(a, without(3, 0, a.At...), join(6, 1, run(3, 0, 1))), []api.Id{by(3, 0)}},
		{"one that a join has", of(join(3, 0, a.At...), join(6, 1, run(3, 0, 1))), []api.Id{by(1, 0), by(3, 0)}},
		{"the first one that may be", of(join(2, 0, run(1, 0, 1))), []api.Id{by(1, 0)}},
		{"the last one that may be", of(join(1<<30, 0, run(1<<30-1, 7, 1))), []api.Id{by(1<<30-1, 7)}},
		{"the last one of a long run", of(join(1<<30, 0, run(1, 3, 4096))), []api.Id{by(4096, 3)}},
	} {
		for _, id := range slices.Concat(stampsAbout(c.l), c.joined, []api.Id{by(2, 0), by(5, 1), by(1, 0), by(6, 1)}) {
			if want := slices.Contains(c.joined, id); Joined(c.l, id) != want {
				t.Errorf("Joined of %s, of %v: %t", c.what, id, !want)
			}
		}
		asks(t, c.l, stampsAbout(c.l))
	}
}

// P12.1, Ids: what is known, one by one.
func TestIdsTellKnown(t *testing.T) {
	for _, c := range []struct {
		what string
		l    []api.Op
		want []api.Times
	}{
		{"none", nil, nil},
		{"none that is no nil", of(), nil},
		{"an insert, and a delete", of(insert(97, run(1, 0, 1)), without(2, 0, run(1, 0, 1))), nil},
		{"a mark", of(one(1, 0)), []api.Times{times(0, 1, 1)}},
		{"the last mark that may be", of(one(1<<30, 7)), []api.Times{times(7, 1<<30, 1<<30)}},
		{"a join: its own stamp, not that of what it takes away", of(join(9, 3, run(1, 0, 4))), []api.Times{times(3, 9, 9)}},
		{"a mark of a long place: its own stamp alone", of(mark(run(1, 0, 4), run(9, 3, 2))), []api.Times{times(3, 10, 10)}},
		{"two that touch", of(one(1, 0), one(2, 0)), []api.Times{times(0, 1, 2)}},
		{"a mark and a join that touch", of(one(1, 0), join(2, 0, run(1, 0, 1))), []api.Times{times(0, 1, 2)}},
		{"two with a gap", of(one(1, 0), one(3, 0)), []api.Times{times(0, 1, 1, 3, 3)}},
		{"two with an insert between", of(one(1, 0), insert(97, run(2, 0, 1)), one(3, 0)), []api.Times{times(0, 1, 1, 3, 3)}},
		{"two with a delete between", of(one(1, 0), without(2, 0, run(1, 0, 1)), join(3, 0, run(1, 0, 1))), []api.Times{times(0, 1, 1, 3, 3)}},
		{"content about", of(insert(97, run(1, 0, 1)), mark(run(1, 0, 2)), without(3, 0, run(1, 0, 1))), []api.Times{times(0, 2, 2)}},
		{"of one time", of(one(4, 0), insert(97, run(4, 1, 1)), join(4, 2, run(1, 0, 1)), without(4, 3, run(1, 0, 1)), one(4, 7)), []api.Times{times(0, 4, 4), times(2, 4, 4), times(7, 4, 4)}},
		{"replicas that fall as times rise", of(one(1, 7), one(2, 3), one(3, 0)), []api.Times{times(0, 3, 3), times(3, 2, 2), times(7, 1, 1)}},
		{"one that is joined, and its joins", of(one(1, 0), join(3, 1, run(1, 0, 1)), join(4, 1, run(1, 0, 1))), []api.Times{times(0, 1, 1), times(1, 3, 4)}},
	} {
		if x, e := Ids(c.l); e != api.OK || !equalClock(x, c.want) {
			t.Errorf("Ids of %s: %v, %d; want %v", c.what, x, e, c.want)
		}
		asks(t, c.l, stampsAbout(c.l))
	}
}

// few is operations of which all bags are asked: marks side by side and one under another, their joins, older ones and younger ones, content, and what takes content away.
func few() []api.Op {
	a, m, n, deep := insert(97, run(1, 0, 1)), mark(run(1, 0, 2)), mark(run(1, 0, 1), run(2, 1, 1)), mark(run(1, 0, 3))
	return of(a, m, n, deep,
		join(3, 1, m.At...), join(4, 0, n.At...), mark(run(1, 0, 1), run(4, 1, 1)), join(4, 2, deep.At...), join(5, 0, m.At...),
		without(5, 1, m.At...), join(6, 0, a.At...), join(6, 1, run(5, 7, 1)), without(7, 0, a.At...))
}

// P12.1: all bags of few operations, joins without their marks and marks without their joins among them.
func TestTellsAllOfFew(t *testing.T) {
	all := few()
	ids := stampsAbout(all)
	for which := range 1 << len(all) {
		var l []api.Op
		for i, o := range all {
			if which>>i&1 == 1 {
				l = append(l, o)
			}
		}
		asks(t, l, ids)
	}
}

// P12.1: bags of many lengths and kinds.
func TestTellsAll(t *testing.T) {
	lived, joined := 0, 0
	for _, l := range some() {
		if !mayBe(l) {
			t.Fatalf("%v may not be", brief(l))
		}
		asks(t, l, stampsAbout(l))
		x, _ := Live(l)
		lived += len(x)
		for _, o := range l {
			if o.Kind == 2 && Joined(l, o.Id) {
				joined++
			}
		}
	}
	if lived < 500 || joined < 500 {
		t.Errorf("%d live, %d joined: too few to tell", lived, joined)
	}
}

// P12.1, Live: marks whose places fall as their stamps rise, rise as these rise, and do both by turns.
func TestLiveIsInOrderOfPlaces(t *testing.T) {
	var chain []api.Run
	var fall, rise, both []api.Op
	for i := range uint32(60) {
		fall = append(fall, one(i+1, 0))
		chain = under(chain, by(i*2+1, uint8(i%8)))
		rise = append(rise, mark(chain...))
		both = append(both, mark(chain...), one(i*2+2, 3))
	}
	x, e := Live(fall)
	slices.Reverse(fall)
	if e != api.OK || !equal(x, fall) {
		t.Errorf("those that fall: %v, %d", brief(x), e)
	}
	x, e = Live(rise)
	if e != api.OK || !equal(x, rise) {
		t.Errorf("those that rise: %v, %d", brief(x), e)
	}
	lives(t, both)
	if x, _ := Live(both); len(x) != 120 || x[0].Id != by(120, 3) || x[119].Id != endOf(chain) {
		t.Errorf("both by turns: %d, %v", len(x), brief(x))
	}
	for seed := range uint32(40) {
		inOrder(t, grown(100, seed, "immmj"))
	}
}

// inOrder asks whether each live mark is ahead of all that are behind it in the answer.
func inOrder(t *testing.T, l []api.Op) {
	t.Helper()
	x, e := Live(l)
	if e != api.OK || len(x) < 5 {
		t.Fatalf("Live of %d, %v: %d, %d", len(l), brief(l), len(x), e)
	}
	for i, a := range x {
		for _, b := range x[i+1:] {
			if !ahead(a.At, b.At) {
				t.Fatalf("Live of %v: %v stands ahead of %v", brief(l), a, b)
			}
		}
	}
}

// P12.1: places that part late, or end where the other one goes on, in the midst of a run too, and the longest ones.
func TestLiveOrdersLongPlaces(t *testing.T) {
	var p []api.Run
	for i := range uint32(63) {
		p = append(p, run(i+1, uint8(i%2), 1))
	}
	l := of(
		mark(append(slices.Clone(p), run(64, 1, 1))...), mark(append(slices.Clone(p), run(64, 5, 1))...),
		mark(append(slices.Clone(p[:62]), run(65, 0, 1))...), mark(append(slices.Clone(p[:62]), run(65, 7, 2))...),
		mark(run(1, 0, 4095)), mark(run(1, 0, 4096)), mark(run(1, 1, 4096)), mark(run(1, 0, 4000), run(4050, 3, 96)), mark(run(1<<30-4095, 3, 4096)),
	)
	slices.SortFunc(l, func(a, b api.Op) int {
		if before(a.Id, b.Id) {
			return -1
		}
		return 1
	})
	asks(t, l, stampsAbout(l))
	x, e := Live(l)
	if e != api.OK || len(x) != len(l) {
		t.Fatalf("Live of the longest: %d, %d", len(x), e)
	}
	for i := range l {
		gone := append(copied(l), join(1<<30, 7, l[i].At...))
		if i == len(l)-1 {
			// Nothing is younger than the last time.
			if _, e := Live(gone); e != api.ErrBad {
				t.Errorf("Live with a join as old as its mark: %d", e)
			}
			continue
		}
		x, e := Live(gone)
		if e != api.OK || len(x) != len(l)-1 || slices.ContainsFunc(x, func(o api.Op) bool { return o.Id == l[i].Id }) {
			t.Errorf("Live without %v: %d, %d", l[i].Id, len(x), e)
		}
		lives(t, gone)
	}
}

// P12.1: bags of 1023, of 1024, and of more, which may not be.
func TestComesToMaxOps(t *testing.T) {
	for _, c := range []struct {
		kinds     string
		live, ids int
	}{
		{"m", 1024, 1024}, {"j", 0, 1024}, {"i", 0, 0}, {"d", 0, 0}, {"mj", 0, 1024}, {"mi", 512, 512}, {"jm", 1, 1024}, {"imd", 341, 341}, {"mdj", 342, 683},
	} {
		l := alone(1024, c.kinds)
		x, e := Live(l)
		ids, f := Ids(l)
		if e != api.OK || f != api.OK || len(x) != c.live || clock.Count(ids) != c.ids {
			t.Errorf("1024 of %s: %d live, %d, %d stamps, %d; want %d, %d", c.kinds, len(x), e, clock.Count(ids), f, c.live, c.ids)
		}
		asks(t, l, stampsAbout(l))
		asks(t, l[:1023], stampsAbout(l))
		for _, n := range []int{1025, 1026, 2048} {
			refusesAll(t, "more than may be", alone(n, c.kinds))
		}
	}
	for seed := range uint32(6) {
		l := grown(1024, seed, kindsAll()[seed+6])
		asks(t, l, stampsAbout(l))
		refusesAll(t, "one more than may be", grown(1025, seed, kindsAll()[seed+6]))
	}
}

// P12.1, Ids: 1024 stamps that don't touch are as many spans.
func TestIdsOfManySpans(t *testing.T) {
	var l []api.Op
	for i := range uint32(1024) {
		l = append(l, one(i*2+1, 5))
	}
	c, e := Ids(l)
	if e != api.OK || len(c) != 1 || len(c[0].Spans) != 1024 || clock.Check(c) != api.OK {
		t.Errorf("Ids: %d stamps, %d", clock.Count(c), e)
	}
	idsTell(t, l)
}

// refusesAll asks whether all calls refuse a bag, and answer nothing beside the error.
func refusesAll(t *testing.T, what string, l []api.Op) {
	t.Helper()
	if mayBe(l) {
		t.Fatalf("%s may be: %v", what, brief(l))
	}
	if x, e := Live(l); e != api.ErrBad || len(x) != 0 {
		t.Errorf("Live of %s: %v, %d; want ErrBad", what, brief(x), e)
	}
	if c, e := Ids(l); e != api.ErrBad || len(c) != 0 {
		t.Errorf("Ids of %s: %v, %d; want ErrBad", what, c, e)
	}
	ids := edges()
	for i, o := range l {
		if len(l) < 60 || i%101 == 0 || i > len(l)-3 {
			ids = append(ids, o.Id, endOf(o.At))
		}
	}
	for _, id := range ids {
		if Joined(l, id) {
			t.Errorf("Joined of %s, of %v: true", what, id)
		}
	}
}

// bad is operations that may not be.
func bad() []api.Op {
	return []api.Op{
		{}, {Kind: 1, Id: by(9, 0)}, {Kind: 2, Id: by(9, 0), At: at()}, {Kind: 4, Id: by(9, 0)}, {Kind: 255, Id: by(math.MaxUint32, 255), Point: math.MinInt},
		{Kind: 0, Id: by(9, 0), At: at(run(9, 0, 1))}, {Kind: 5, Id: by(9, 0), At: at(run(9, 0, 1))}, {Kind: 5, Id: by(9, 0), At: at(run(1, 0, 1))}, {Kind: 130, Id: by(9, 0), At: at(run(9, 0, 1))}, {Kind: 132, Id: by(9, 0), At: at(run(1, 0, 1))},
		{Kind: 2, Id: by(9, 0), At: at(run(9, 1, 1))}, {Kind: 2, Id: by(9, 0), At: at(run(8, 0, 1))}, {Kind: 2, Id: by(9, 0), At: at(run(9, 0, 1)), Point: 1}, {Kind: 4, Id: by(9, 0), At: at(run(1, 0, 1)), Point: 97},
		mark(run(0, 0, 1)), mark(run(9, 8, 1)), mark(run(9, 255, 1)), mark(run(1<<30+1, 0, 1)), mark(run(math.MaxUint32, 0, 1)), mark(run(1<<30, 0, 2)),
		mark(run(9, 0, 0)), mark(run(9, 0, -1)), mark(run(9, 0, math.MinInt)), mark(run(9, 0, math.MaxInt)), mark(run(1, 0, 4097)), mark(run(9, 0, 1<<32+1)),
		mark(run(8, 0, 1), run(9, 0, 1)), mark(run(8, 0, 2), run(9, 1, 1)), mark(run(10, 1, 1), run(9, 1, 1)),
		insert(-1, run(9, 0, 1)), insert(0xd800, run(9, 0, 1)), insert(0x110000, run(9, 0, 1)),
		without(9, 0, run(9, 0, 1)), join(9, 0, run(9, 0, 1)), join(9, 1, run(9, 0, 1)), join(8, 0, run(9, 0, 1)), join(9, 7, run(1, 0, 9)), join(9, 8, run(1, 0, 1)), join(1<<30+1, 0, run(1, 0, 1)),
	}
}

// P1, P12.1: bags that may not be are refused by each of the three calls.
func TestAllRefuseWrongs(t *testing.T) {
	m, n, j := one(1, 0), one(2, 0), join(3, 1, run(1, 0, 1))
	swapped := grown(60, 5, "mj")
	swapped[30], swapped[31] = swapped[31], swapped[30]
	back := grown(60, 6, "imdj")
	slices.Reverse(back)
	for what, l := range map[string][]api.Op{
		"two that fall":                  of(n, m),
		"two that fall by the replica":   of(one(2, 1), one(2, 0)),
		"a mark twice":                   of(m, m),
		"a join twice":                   of(m, j, j),
		"a join ahead of its mark":       of(j, m),
		"a join behind a later mark":     of(m, one(4, 0), j),
		"content twice":                  of(m, insert(97, run(2, 0, 1)), insert(97, run(2, 0, 1)), j),
		"a mark and content of a stamp":  of(m, insert(97, run(1, 0, 1)), j),
		"a join and content of a stamp":  of(m, j, without(3, 1, run(1, 0, 1))),
		"two joins of a stamp":           of(m, n, j, join(3, 1, run(2, 0, 1))),
		"two in the middle change place": swapped,
		"all in another order":           back,
		"very many":                      alone(1<<16, "mj"),
		"very many of nothing":           make([]api.Op, 1<<16),
	} {
		refusesAll(t, what, l)
	}
	for _, o := range bad() {
		if op.Check(o) != api.ErrBad {
			t.Fatalf("%v may be", o)
		}
		refusesAll(t, "one that may not be", of(o))
		refusesAll(t, "one that may not be ahead", of(o, m, n, j))
		refusesAll(t, "one that may not be in the middle", of(m, n, j, o, one(1<<29, 0), join(1<<30, 0, run(1<<29, 0, 1))))
		refusesAll(t, "one that may not be at the end", of(m, n, j, o))
	}
}

// P1, P12.1: each operation of a bag is turned, so that it may not be where all stamps rise.
func TestAllRefuseTurned(t *testing.T) {
	for _, n := range []int{1, 2, 9, 1024} {
		for _, kinds := range []string{"m", "j", "id", "imdj"} {
			for _, i := range []int{0, n / 2, n - 1} {
				for _, turn := range []func(o *api.Op){func(o *api.Op) { o.Kind = 0 }, func(o *api.Op) { o.Kind = 5 }, func(o *api.Op) { o.Point = -1 }, func(o *api.Op) { o.At = nil }} {
					l := grown(n, uint32(n), kinds)
					turn(&l[i])
					refusesAll(t, "one that is turned", l)
				}
			}
		}
	}
}

// directoryOf is the marks and joins of a bag.
func directoryOf(l []api.Op) []api.Op {
	return slices.DeleteFunc(slices.Clone(l), func(o api.Op) bool { return o.Kind%2 == 1 })
}

// sameTold asks whether two bags have the same live marks, the same that are joined, and the same stamps of the directory.
func sameTold(t *testing.T, what string, a, b []api.Op) {
	t.Helper()
	x, e := Live(a)
	y, f := Live(b)
	if e != api.OK || f != api.OK || !equal(x, y) {
		t.Fatalf("%s: Live of %v is %v, %d; of %v %v, %d", what, brief(a), brief(x), e, brief(b), brief(y), f)
	}
	c, e := Ids(a)
	d, f := Ids(b)
	if e != api.OK || f != api.OK || !equalClock(c, d) {
		t.Fatalf("%s: Ids of %v are %v, %d; of %v %v, %d", what, brief(a), c, e, brief(b), d, f)
	}
	for _, id := range stampsAbout(b) {
		if Joined(a, id) != Joined(b, id) {
			t.Fatalf("%s: %v is joined in one of %v, %v", what, id, brief(a), brief(b))
		}
	}
}

// content is inserts and deletes about a bag's operations: of stamps that this has not, right beside them, under its marks, and taking its marks away.
func content(l []api.Op) []api.Op {
	var out []api.Op
	for _, o := range l {
		for _, id := range []api.Id{by(o.Id.T, o.Id.R^1), by(o.Id.T+1, o.Id.R)} {
			out = append(out, insert(98, run(id.T, id.R, 1)))
			if endOf(o.At).T < id.T {
				out = append(out, without(id.T, id.R^2, o.At...))
			}
			if endOf(o.At).T < id.T && len(o.At) < 60 {
				out = append(out, insert(99, under(o.At, by(id.T, id.R^4))...))
			}
		}
	}
	// What has a stamp of l isn't content added, but left out.
	return slices.DeleteFunc(out, func(o api.Op) bool {
		return slices.ContainsFunc(l, func(x api.Op) bool { return x.Id == o.Id })
	})
}

// P12.3: content that is added one by one changes no live mark, nothing that is joined, and no stamp of the directory.
func TestContentAddedChangesNothing(t *testing.T) {
	for i, kinds := range kindsAll() {
		for _, n := range []int{0, 1, 2, 5, 12} {
			l := grown(n, uint32(i*31+n), kinds)
			more := l
			for _, o := range append(content(l), insert(97, run(1, 0, 1)), without(1<<30, 7, run(1, 0, 1))) {
				with, e := bag.Add(more, o)
				if e != api.OK {
					t.Fatalf("Add of %v to %v: %d", o, brief(more), e)
				}
				sameTold(t, "content added", with, more)
				more = with
			}
			sameTold(t, "all content added", more, l)
		}
	}
}

// P12.3: content that is taken away, one by one and all of it, changes nothing either.
func TestContentTakenChangesNothing(t *testing.T) {
	for _, l := range some() {
		sameTold(t, "all content taken", directoryOf(l), l)
		if len(l) > 20 {
			continue
		}
		for i, o := range l {
			if o.Kind%2 == 1 {
				sameTold(t, "content taken", slices.Delete(slices.Clone(l), i, i+1), l)
			}
		}
	}
}

// P12.3: content in the place of other content changes nothing.
func TestContentTurnedChangesNothing(t *testing.T) {
	for seed := range uint32(6) {
		l := grown(40, seed, "imdj")
		for i, o := range l {
			turned := copied(l)
			switch o.Kind {
			case 1:
				turned[i].Point = 0x10ffff
			case 3:
				turned[i].At = at(run(1, 5, 1))
			}
			sameTold(t, "content turned", turned, l)
		}
	}
}

// isLive is whether a mark of a stamp is live in a bag.
func isLive(t *testing.T, l []api.Op, id api.Id) bool {
	t.Helper()
	x, e := Live(l)
	if e != api.OK {
		t.Fatalf("Live of %v: %d", brief(l), e)
	}
	return slices.ContainsFunc(x, func(o api.Op) bool { return o.Id == id })
}

// orders is some numbers up to one in all orders.
func orders(n int) [][]int {
	if n == 0 {
		return [][]int{nil}
	}
	var out [][]int
	for _, l := range orders(n - 1) {
		for i := range n {
			out = append(out, slices.Insert(slices.Clone(l), i, n-1))
		}
	}
	return out
}

// P12.3: a mark and its join among others that come in each order: it is never live again, whichever came first; each step tells what its operations tell.
func TestJoinedIsNeverLiveAgain(t *testing.T) {
	m := mark(run(1, 0, 2))
	all := of(m, one(3, 1), join(4, 0, m.At...), insert(97, run(1, 0, 1)), join(5, 1, m.At...), mark(run(1, 0, 2), run(6, 0, 1)))
	for _, order := range orders(len(all)) {
		var l []api.Op
		was := false
		for _, i := range order {
			with, e := bag.Add(l, all[i])
			if e != api.OK {
				t.Fatalf("Add of %v to %v: %d", all[i], l, e)
			}
			lives(t, with)
			was = was || i == 2 || i == 4
			if Joined(with, m.Id) != was || was && isLive(t, with, m.Id) {
				t.Fatalf("order %v: %v, joined: %t", order, with, was)
			}
			l = with
		}
	}
}

// P12.3: what is joined in a bag is so, and is not live, in all that it is joined with, either way round.
func TestJoinedStaysWithWhatever(t *testing.T) {
	for seed := range uint32(60) {
		kinds := kindsAll()[seed%13]
		a, b := grown(30, seed, "imdj"), grown(int(seed), seed*7+1, kinds)
		for _, two := range [][2][]api.Op{{a, b}, {b, a}} {
			both, e := bag.Join(two[0], two[1])
			if e != api.OK {
				t.Fatalf("Join of %v, %v: %d", brief(a), brief(b), e)
			}
			for _, o := range two[0] {
				if o.Kind == 4 && (!Joined(both, endOf(o.At)) || isLive(t, both, endOf(o.At))) {
					t.Fatalf("%v is live in %v", endOf(o.At), brief(both))
				}
			}
		}
	}
}

// P12.3, P12.1: marks and joins that come in another order make the same, as bags do.
func TestOrderIsNothing(t *testing.T) {
	for seed := range uint32(20) {
		l := grown(30, seed, "imjj")
		for _, step := range []int{1, 7, 11, 29} {
			var x []api.Op
			for i := range l {
				with, e := bag.Add(x, l[(i*step+3)%len(l)])
				if e != api.OK {
					t.Fatalf("Add to %v: %d", brief(x), e)
				}
				lives(t, with)
				x = with
			}
			sameTold(t, "put in another order", x, l)
		}
	}
}

// P12.1: a mark more is live beside all that were; a join more takes away its mark, and nothing else.
func TestMarkAndJoinAdded(t *testing.T) {
	for seed := range uint32(30) {
		l := grown(30, seed, "imdjm")
		was, _ := Live(l)
		m := mark(under(l[0].At, by(1<<20, 5))...)
		x, e := Live(append(copied(l), m))
		if e != api.OK || len(x) != len(was)+1 || !equal(slices.DeleteFunc(x, func(o api.Op) bool { return o.Id == m.Id }), was) {
			t.Fatalf("a mark more in %v: %v, %d; there were %v", brief(l), brief(x), e, brief(was))
		}
		for i, o := range was {
			x, e := Live(append(copied(l), join(1<<20, 5, o.At...)))
			if e != api.OK || !equal(x, slices.Delete(slices.Clone(was), i, i+1)) {
				t.Fatalf("a join of %v more in %v: %v, %d", o.Id, brief(l), brief(x), e)
			}
		}
	}
}

// memory is a bag's, with what lies around it: other operations, and, around each place, other runs.
type memory struct {
	ops    []api.Op
	places [][]api.Run
}

// lay is a bag as it is, in memory where others are around.
func lay(l []api.Op) (memory, []api.Op) {
	m := memory{ops: slices.Concat(of(one(1, 0)), l, of(one(1<<30, 6), one(1<<30, 7)))}
	for i, o := range l {
		p := slices.Concat(at(run(1, 0, 1)), o.At, at(run(9, 9, 9), run(8, 8, 8)))
		m.places = append(m.places, p)
		m.ops[1+i].At = p[1 : 1+len(o.At)]
	}
	return m, m.ops[1 : 1+len(l)]
}

// copied is a memory as it is now.
func (m memory) copied() memory {
	was := memory{ops: slices.Clone(m.ops)}
	for _, p := range m.places {
		was.places = append(was.places, slices.Clone(p))
	}
	return was
}

// same is whether nothing was changed: no number, and no place is another memory's.
func (m memory) same(was memory) bool {
	for i, p := range m.places {
		in := m.ops[1+i].At
		if !slices.Equal(p, was.places[i]) || len(in) > 0 && &in[0] != &p[1] {
			return false
		}
	}
	return equal(m.ops, was.ops)
}

// spoil writes over all of it.
func (m memory) spoil() {
	for _, p := range m.places {
		spoilPlace(p)
	}
	for i := range m.ops {
		m.ops[i] = one(77, 7)
	}
}

// spoilPlace writes over all that a place has room for.
func spoilPlace(p []api.Run) {
	p = p[:cap(p)]
	for i := range p {
		p[i] = run(77, 7, 77)
	}
}

// P12.2: what is handed in to Live is only read, and may be changed behind the call; what is answered may be changed by its caller, each place of it by itself.
func TestLiveIsNewMemory(t *testing.T) {
	for _, l := range some() {
		m, in := lay(l)
		was := m.copied()
		first, _ := Live(in)
		second, _ := Live(in)
		want := copied(first)
		if !m.same(was) {
			t.Fatalf("Live of %v turns what is handed in", brief(l))
		}
		for i := range first {
			spoilPlace(first[i].At)
			if !equal(first[i+1:], want[i+1:]) {
				t.Fatalf("two places of Live of %v share memory", brief(l))
			}
		}
		first = first[:cap(first)]
		for i := range first {
			first[i] = one(77, 7)
		}
		if !m.same(was) || !equal(second, want) {
			t.Fatalf("Live of %v shares memory", brief(l))
		}
		m.spoil()
		if !equal(second, want) {
			t.Fatalf("Live of %v changes with what was handed in", brief(l))
		}
	}
}

// P12.2: so it is with Ids, of which no two lists share any; Joined only reads.
func TestIdsAreNewMemory(t *testing.T) {
	for _, l := range some() {
		m, in := lay(l)
		was := m.copied()
		first, _ := Ids(in)
		second, _ := Ids(in)
		want := clock.Twin(first)
		for _, id := range stampsAbout(l)[:min(len(l), 30)] {
			Joined(in, id)
		}
		if !m.same(was) {
			t.Fatalf("Ids, Joined of %v turn what is handed in", brief(l))
		}
		for i := range first {
			spans := first[i].Spans[:cap(first[i].Spans)]
			for k := range spans {
				spans[k] = api.Span{From: 77, To: 77}
			}
			if !equalClock(first[i+1:], want[i+1:]) {
				t.Fatalf("two lists of Ids of %v share memory", brief(l))
			}
		}
		m.spoil()
		if !equalClock(second, want) {
			t.Fatalf("Ids of %v share memory", brief(l))
		}
	}
}

// P12.2: bags that may not be are only read, too.
func TestOnlyReadsWrongs(t *testing.T) {
	for _, o := range bad() {
		m, in := lay(of(one(1, 0), join(3, 0, run(1, 0, 1)), o, one(1<<29, 0)))
		was := m.copied()
		Live(in)
		Ids(in)
		Joined(in, by(1, 0))
		if !m.same(was) {
			t.Fatalf("one with %v is turned", o)
		}
	}
}

// P1, P2: nothing is kept from call to call: not what was joined, not the order of what was asked ahead.
func TestKeepsNothing(t *testing.T) {
	m := mark(run(1, 0, 2))
	with := of(m, join(5, 0, m.At...))
	for range 3 {
		if x, e := Live(with); e != api.OK || len(x) != 0 || !Joined(with, m.Id) {
			t.Fatalf("Live of one that is joined: %v, %d", x, e)
		}
		refusesAll(t, "one twice", of(m, m))
		if x, e := Live(of(m)); e != api.OK || !equal(x, of(m)) || Joined(of(m), m.Id) {
			t.Fatalf("Live of a mark alone: %v, %d", x, e)
		}
	}
	l := some()
	for i := range l {
		asks(t, l[len(l)-1-i], nil)
	}
}

// bagFrom is a bag of what bytes tell: each four a kind, a stamp, and an element to stand under or to take away.
func bagFrom(b []byte) []api.Op {
	var l []api.Op
	places := [][]api.Run{nil}
	id := by(0, 7)
	for ; len(b) >= 4; b = b[4:] {
		if r := b[1] % 8; r > id.R && b[1] >= 128 {
			id.R = r
		} else {
			id = by(id.T+1+uint32(b[1]>>5), r)
		}
		p := places[int(b[2])%len(places)]
		if endOf(p).T >= id.T {
			p = at(run(uint32(b[3]), b[2]%8, 1))
		}
		o := api.Op{Kind: b[0] % 6, Id: id, At: p}
		if o.Kind < 3 {
			o.At = under(places[int(b[2])%len(places)], id)
			places = append(places, o.At)
		}
		if o.Kind == 1 {
			o.Point = int(b[3])
		}
		l = append(l, o)
	}
	return l
}

// P1, P12.1 to P12.3: whatever bag, such as may not be too.
func FuzzLive(f *testing.F) {
	f.Add([]byte{2, 0, 0, 0, 2, 1, 1, 0, 4, 0, 1, 0}, uint32(1), uint8(0))
	f.Add([]byte{1, 0, 0, 97, 2, 0, 1, 0, 2, 1, 1, 0, 4, 129, 2, 0, 4, 2, 2, 0, 3, 0, 3, 0}, uint32(2), uint8(1))
	f.Add([]byte{5, 0, 0, 0}, uint32(0), uint8(0))
	f.Add([]byte{4, 64, 0, 1, 4, 3, 0, 2, 2, 9, 0, 0}, uint32(1<<30), uint8(7))
	f.Fuzz(func(t *testing.T, b []byte, time uint32, r uint8) {
		// Long ones are asked elsewhere: here many are, fast.
		l := bagFrom(b[:min(len(b), 400)])
		m, in := lay(l)
		was := m.copied()
		asks(t, in, append(stampsAbout(l), by(time, r)))
		if !m.same(was) {
			t.Fatalf("%v is turned", brief(l))
		}
		if mayBe(l) {
			sameTold(t, "all content taken", directoryOf(l), l)
		}
	})
}

// P12.1: the chapter's own examples.
func TestExamples(t *testing.T) {
	m, n, j := one(1, 0), one(2, 0), join(3, 1, run(1, 0, 1))
	if l, e := Live(of(m, n)); e != api.OK || !equal(l, of(n, m)) {
		t.Errorf("Live(M N): %v, %d", l, e)
	}
	if l, e := Live(of(m, n, j)); e != api.OK || !equal(l, of(n)) {
		t.Errorf("Live(M N J): %v, %d", l, e)
	}
	if !Joined(of(m, n, j), by(1, 0)) || Joined(of(m, n, j), by(2, 0)) {
		t.Error("Joined(M N J) of 1 by 0, 2 by 0")
	}
	if c, e := Ids(of(m, n, j)); e != api.OK || !equalClock(c, []api.Times{times(0, 1, 2), times(1, 3, 3)}) {
		t.Errorf("Ids(M N J): %v, %d", c, e)
	}
	if l, e := Live(of(n, m)); e != api.ErrBad || len(l) != 0 {
		t.Errorf("Live(N M): %v, %d", l, e)
	}
}
