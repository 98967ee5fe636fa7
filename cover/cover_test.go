package cover

import (
	"math"
	"slices"
	"testing"

	"octavo/api"
	"octavo/bag"
	"octavo/clock"
	"octavo/home"
	"octavo/op"
)

// run is so many stamps by r from t on.
func run(t uint32, r uint8, many int) api.Run {
	return api.Run{T: t, R: r, Many: many}
}

// at is a place of some runs.
func at(l ...api.Run) []api.Run {
	return l
}

// by is a stamp.
func by(t uint32, r uint8) api.Id {
	return api.Id{T: t, R: r}
}

// of is a bag of some operations.
func of(l ...api.Op) []api.Op {
	return l
}

// ids is some stamps.
func ids(l ...api.Id) []api.Id {
	return l
}

// first is the first section.
var first = api.Id{}

// endOf is the last stamp of a place; the zero one, if it has none.
func endOf(p []api.Run) api.Id {
	if len(p) == 0 {
		return first
	}
	r := p[len(p)-1]
	return by(r.T+uint32(r.Many)-1, r.R)
}

func insert(p ...api.Run) api.Op {
	return api.Op{Kind: 1, Id: endOf(p), At: p, Point: 97}
}

func mark(p ...api.Run) api.Op {
	return api.Op{Kind: 2, Id: endOf(p), At: p}
}

func without(t uint32, r uint8, p ...api.Run) api.Op {
	return api.Op{Kind: 3, Id: by(t, r), At: p}
}

func join(t uint32, r uint8, p ...api.Run) api.Op {
	return api.Op{Kind: 4, Id: by(t, r), At: p}
}

// before is whether one stamp is less than another one, by the words of chapter 5.
func before(a, b api.Id) bool {
	return a.T < b.T || a.T == b.T && a.R < b.R
}

// byStamps puts operations in the order of their stamps.
func byStamps(l ...api.Op) []api.Op {
	slices.SortFunc(l, func(a, b api.Op) int {
		switch {
		case before(a.Id, b.Id):
			return -1
		case before(b.Id, a.Id):
			return 1
		}
		return 0
	})
	return l
}

// stampsOf is the stamps of a place that may be.
func stampsOf(p []api.Run) []api.Id {
	var l []api.Id
	for _, r := range p {
		for n := range r.Many {
			l = append(l, by(r.T+uint32(n), r.R))
		}
	}
	return l
}

// ahead is whether one place is ahead of another one, by the words of chapter 6, of their stamps.
func ahead(a, b []api.Id) bool {
	for i := range min(len(a), len(b)) {
		if a[i] != b[i] {
			return before(b[i], a[i])
		}
	}
	return len(a) < len(b)
}

// under is the place of a child, by the words of chapter 6, whether it may be or not.
func under(p []api.Run, id api.Id) []api.Run {
	q := slices.Clone(p)
	if end := len(q) - 1; end >= 0 && endOf(q) == by(id.T-1, id.R) {
		q[end].Many++
		return q
	}
	return append(q, run(id.T, id.R, 1))
}

// parent is a place without its last stamp.
func parent(p []api.Run) []api.Run {
	q := slices.Clone(p)
	end := len(q) - 1
	if end < 0 || q[end].Many == 1 {
		return q[:max(0, end)]
	}
	q[end].Many--
	return q
}

// mayBe is what bags that may be are, by the words of chapter 11.
func mayBe(l []api.Op) bool {
	for i, o := range l {
		if op.Check(o) != api.OK || i > 0 && !before(l[i-1].Id, o.Id) {
			return false
		}
	}
	return len(l) <= 1024
}

// inOrder is a section by the words of chapter 13: its name, and the stamps of where it begins.
type inOrder struct {
	id   api.Id
	from []api.Id
}

// sectionsInWords is the sections of a bag that may be, in order.
func sectionsInWords(l []api.Op) []inOrder {
	gone := map[api.Id]int{}
	for _, o := range l {
		if o.Kind == 4 {
			gone[endOf(o.At)]++
		}
	}
	out := []inOrder{{}}
	for _, o := range l {
		if o.Kind != 2 || gone[o.Id] > 0 {
			continue
		}
		s := inOrder{o.Id, stampsOf(o.At)}
		i := 1
		for i < len(out) && ahead(out[i].from, s.from) {
			i++
		}
		out = slices.Insert(out, i, s)
	}
	return out
}

// homeInWords is the home of a place, by its stamps: that of the last section that is not behind it.
func homeInWords(secs []inOrder, p []api.Id) api.Id {
	for _, s := range slices.Backward(secs) {
		if !ahead(p, s.from) {
			return s.id
		}
	}
	return first
}

// homed is content, by the words: its home, and whether it counts.
type homed struct {
	op     api.Op
	home   api.Id
	counts bool
}

// inWords is the sections of a bag, and all its content; none, if it may not be.
func inWords(l []api.Op) ([]inOrder, []homed) {
	if !mayBe(l) {
		return nil, nil
	}
	secs := sectionsInWords(l)
	held := map[api.Id]int{}
	for _, o := range l {
		held[o.Id]++
	}
	var out []homed
	for _, o := range l {
		if o.Kind != 1 && o.Kind != 3 {
			continue
		}
		all := stampsOf(o.At)
		c := homed{o, homeInWords(secs, all), true}
		needs := all
		if o.Kind == 1 {
			needs = all[:len(all)-1]
		}
		for i, id := range needs {
			if held[id] == 0 && homeInWords(secs, all[:i+1]) == c.home {
				c.counts = false
			}
		}
		out = append(out, c)
	}
	return secs, out
}

// clockInWords is the clock of some stamps that rise, by the words of chapters 7 and 8.
func clockInWords(l []api.Op) []api.Times {
	var c []api.Times
	for r := range uint8(8) {
		var spans []api.Span
		for _, o := range l {
			end := len(spans) - 1
			switch {
			case o.Id.R != r:
			case end >= 0 && spans[end].To+1 == o.Id.T:
				spans[end].To++
			default:
				spans = append(spans, api.Span{From: o.Id.T, To: o.Id.T})
			}
		}
		if len(spans) > 0 {
			c = append(c, api.Times{R: r, Spans: spans})
		}
	}
	return c
}

// sameOp is whether all fields of two operations are the same.
func sameOp(a, b api.Op) bool {
	return a.Kind == b.Kind && a.Id == b.Id && a.Point == b.Point && slices.Equal(a.At, b.At)
}

// sameOps is whether two lists are the same, in the same order.
func sameOps(a, b []api.Op) bool {
	return slices.EqualFunc(a, b, sameOp)
}

// sameClock is whether all fields of two clocks are the same.
func sameClock(a, b []api.Times) bool {
	return slices.EqualFunc(a, b, func(x, y api.Times) bool { return x.R == y.R && slices.Equal(x.Spans, y.Spans) })
}

// idsOf is the stamps of some operations, in their order.
func idsOf(l []api.Op) []api.Id {
	var out []api.Id
	for _, o := range l {
		out = append(out, o.Id)
	}
	return out
}

// brief is as much of some operations as is short enough to be told.
func brief(l []api.Op) []api.Op {
	l = slices.Clone(l[:min(len(l), 16)])
	for i, o := range l {
		l[i].At = o.At[:min(len(o.At), 5)]
	}
	return l
}

// few is as many stamps as are short enough to be told.
func few(l []api.Op) []api.Id {
	return idsOf(l[:min(len(l), 16)])
}

// asks asks whether all calls answer what they have to, of some stamps.
func asks(t *testing.T, l []api.Op, stamps []api.Id) {
	t.Helper()
	secs, content := inWords(l)
	for _, s := range stamps {
		var all, some []api.Op
		for _, c := range content {
			if c.home == s {
				all = append(all, c.op)
			}
			if c.home == s && c.counts {
				some = append(some, c.op)
			}
		}
		refusal := api.OK
		switch {
		case len(secs) == 0:
			refusal = api.ErrBad
		case !slices.ContainsFunc(secs, func(x inOrder) bool { return x.id == s }):
			refusal = api.ErrSection
		}
		tells(t, l, s, all, some, refusal)
	}
}

// tells asks whether all calls tell of a section what is homed there, and what of it counts, or that they refuse.
func tells(t *testing.T, l []api.Op, s api.Id, all, some []api.Op, refusal api.Errno) {
	t.Helper()
	if got, e := Homed(l, s); !sameOps(got, all) || e != refusal {
		t.Fatalf("Homed(%d, %v, in %v): %v, %d; want %v, %d", len(l), brief(l), s, few(got), e, few(all), refusal)
	}
	if got, e := Counts(l, s); !sameOps(got, some) || e != refusal {
		t.Fatalf("Counts(%d, %v, in %v): %v, %d; want %v, %d", len(l), brief(l), s, few(got), e, few(some), refusal)
	}
	if got, e := Version(l, s); !sameClock(got, clockInWords(some)) || e != refusal {
		t.Fatalf("Version(%d, %v, in %v): %v, %d; want that of %v, %d", len(l), brief(l), s, got, e, few(some), refusal)
	}
}

// asksAbout asks all calls of what stands in a bag, and about it.
func asksAbout(t *testing.T, l []api.Op) {
	t.Helper()
	asks(t, l, stampsAbout(l))
}

// sample is a bag's operations; of a long one those at its ends, and some between.
func sample(l []api.Op) []api.Op {
	var out []api.Op
	for i, o := range l {
		if len(l) <= 60 || i < 5 || i >= len(l)-5 || i%211 == 0 {
			out = append(out, o)
		}
	}
	return out
}

// stampsAbout is stamps of the edges, of a bag's operations, of the places in it, and some beside them.
func stampsAbout(l []api.Op) []api.Id {
	out := ids(first, by(0, 1), by(0, 255), by(1, 0), by(1, 7), by(1, 8), by(1<<30, 0), by(1<<30, 7), by(1<<30, 8), by(1<<30+1, 0), by(1<<31, 0), by(math.MaxUint32, 255))
	for _, o := range sample(l) {
		out = append(out, o.Id, endOf(o.At), endOf(parent(o.At)), by(o.Id.T, o.Id.R+8), by(o.Id.T+1<<31, o.Id.R), by(o.Id.T+1, o.Id.R), by(o.Id.T, o.Id.R^1))
	}
	return out
}

// placesAbout is the places of a bag's operations, and those right ahead of each, right behind it, and under it, some of which may not be.
func placesAbout(l []api.Op) [][]api.Run {
	out := [][]api.Run{at(run(1, 0, 1)), at(run(1<<30, 7, 1))}
	for _, o := range l {
		p, end := parent(o.At), endOf(o.At)
		younger := under(p, by(end.T+1, 6))
		out = append(out, o.At, p, younger, under(younger, by(end.T+3, 5)), under(p, by(end.T, end.R+1)), under(p, by(1<<30, 7)))
		out = append(out, under(p, by(end.T, end.R-1)), under(p, by(end.T-1, 7)), under(p, by(endOf(p).T+1, 0)))
		out = append(out, under(o.At, by(1<<30, 7)), under(o.At, by(end.T+1, 0)), under(o.At, by(end.T+1, end.R)), under(under(o.At, by(end.T+1, 4)), by(end.T+2, 4)))
	}
	return out
}

// dice are numbers that look like chance, and are the same each time.
type dice struct {
	n uint32
}

func (d *dice) under(n int) int {
	d.n = d.n*1664525 + 1013904223
	return int(d.n>>8) % n
}

// next is a stamp behind one: of the same time, the next one, or later.
func (d *dice) next(id api.Id) api.Id {
	switch d.under(6) {
	case 0:
		return by(id.T+1, id.R)
	case 1:
		if id.R < 7 {
			return by(id.T, id.R+1)
		}
	}
	return by(id.T+1+uint32(d.under(4)/3), uint8(d.under(4)))
}

// grown is a bag of so many operations: elements under others, and what takes elements away; kinds tells how the kinds are shared out.
func grown(n int, seed uint32, kinds string) []api.Op {
	d := &dice{seed}
	var l []api.Op
	places := [][]api.Run{nil}
	id := by(3, 0)
	for range n {
		id = d.next(id)
		p := places[d.under(len(places))]
		if d.under(2) > 0 {
			p = places[max(0, len(places)-1-d.under(4))]
		}
		if endOf(p).T >= id.T || len(p) > 60 {
			p = nil
		}
		goal := p
		if len(goal) == 0 {
			goal = at(run(uint32(1+d.under(2)), uint8(d.under(8)), 1))
		}
		switch kinds[d.under(len(kinds))] {
		case 'i':
			l = append(l, insert(under(p, id)...))
		case 'm':
			l = append(l, mark(under(p, id)...))
		case 'd':
			l = append(l, without(id.T, id.R, goal...))
		case 'j':
			l = append(l, join(id.T, id.R, goal...))
		}
		if o := l[len(l)-1]; o.Kind < 3 {
			places = append(places, o.At)
		}
	}
	return l
}

// holed is a bag without some of its operations, one of so many, and these.
func holed(l []api.Op, one int, seed uint32) (left, gone []api.Op) {
	d := &dice{seed}
	for _, o := range l {
		if d.under(one) == 0 {
			gone = append(gone, o)
		} else {
			left = append(left, o)
		}
	}
	return left, gone
}

// torn is a bag, and what was taken out of it.
type torn struct {
	left, gone []api.Op
}

// some is bags of many lengths and kinds, whole ones and such with holes.
func some() []torn {
	l := []torn{{}, {left: of()}}
	for i, kinds := range []string{"i", "id", "m", "im", "imdj", "iiid", "iiiim", "iiiidddmj", "iimmj", "iiiiiiiimdj", "mj"} {
		for k, n := range []int{1, 2, 3, 5, 8, 13, 21, 40} {
			for turn := range 4 {
				seed := uint32(i*1000 + k*100 + turn)
				all := grown(n, seed, kinds)
				if turn == 0 {
					l = append(l, torn{left: all})
					continue
				}
				left, gone := holed(all, 3*turn, seed)
				l = append(l, torn{left, gone})
			}
		}
	}
	return l
}

// alone is so many operations of one kind, or of some in turn, side by side, the last one ahead of all.
func alone(n int, kinds string) []api.Op {
	var l []api.Op
	for i := range n {
		t := uint32(2*i + 10)
		switch kinds[i%len(kinds)] {
		case 'i':
			l = append(l, insert(run(t, 1, 1)))
		case 'm':
			l = append(l, mark(run(t, 1, 1)))
		case 'd':
			l = append(l, without(t, 1, run(t-2, 1, 1)))
		case 'j':
			l = append(l, join(t, 1, run(t-2, 1, 1)))
		}
	}
	return l
}

// chain is inserts one under another one, in one run from t on.
func chain(t uint32, n int) []api.Op {
	var l []api.Op
	for i := range n {
		l = append(l, insert(run(t, 0, i+1)))
	}
	return l
}

// The elements of what is known, in their order: A, B under it, M under B, U under M, C under B (elder than M), D under C, and Y ahead of all.
var (
	opA = insert(run(1, 0, 1))
	opB = insert(run(1, 0, 2))
	opC = insert(run(1, 0, 3))
	opD = insert(run(1, 0, 4))
	opM = mark(run(1, 0, 2), run(5, 1, 1))
	opU = insert(run(1, 0, 2), run(5, 1, 1), run(6, 0, 1))
	opY = insert(run(7, 2, 1))
)

// known is a bag, a section of it, and what has to be homed there, and to count.
type known struct {
	what  string
	l     []api.Op
	s     api.Id
	homed []api.Op
	some  []api.Op
}

// asksKnown asks of each what is known, and all that is about it.
func asksKnown(t *testing.T, all []known) {
	t.Helper()
	for _, c := range all {
		t.Run(c.what, func(t *testing.T) {
			tells(t, c.l, c.s, c.homed, c.some, api.OK)
			asksAbout(t, c.l)
		})
	}
}

// P14.1: the chapter's own examples.
func TestExamples(t *testing.T) {
	a, b, m := insert(run(1, 0, 1)), insert(run(1, 0, 2)), mark(run(1, 0, 1), run(5, 0, 1))
	if got, e := Counts(of(a, b), first); e != api.OK || !sameOps(got, of(a, b)) {
		t.Errorf("Counts(A B, 0): %v, %d", got, e)
	}
	if got, e := Counts(of(b), first); e != api.OK || len(got) != 0 {
		t.Errorf("Counts(B, 0): %v, %d", got, e)
	}
	if got, e := Homed(of(b), first); e != api.OK || !sameOps(got, of(b)) {
		t.Errorf("Homed(B, 0): %v, %d", got, e)
	}
	if got, e := Counts(of(b, m), m.Id); e != api.OK || !sameOps(got, of(b)) {
		t.Errorf("Counts(B M, 5 by 0): %v, %d", got, e)
	}
	if got, e := Counts(of(a, m), first); e != api.OK || !sameOps(got, of(a)) {
		t.Errorf("Counts(A M, 0): %v, %d", got, e)
	}
	if got, e := Version(of(a, b), first); e != api.OK || !sameClock(got, []api.Times{{R: 0, Spans: []api.Span{{From: 1, To: 2}}}}) {
		t.Errorf("Version(A B, 0): %v, %d", got, e)
	}
	if got, e := Counts(of(a, b), m.Id); e != api.ErrSection || len(got) != 0 {
		t.Errorf("Counts(A B, 5 by 0): %v, %d", got, e)
	}
}

// P14.1: inserts, and deletes of what is there, of what is not, and of what is homed elsewhere.
func TestContent(t *testing.T) {
	dA, dB, dC, dM, dU := without(8, 3, opA.At...), without(9, 3, opB.At...), without(10, 3, opC.At...), without(11, 3, opM.At...), without(12, 3, opU.At...)
	j := join(13, 0, opM.At...)
	asksKnown(t, []known{
		{"none", nil, first, nil, nil},
		{"none that is no nil", of(), first, nil, nil},
		{"one", of(opA), first, of(opA), of(opA)},
		{"all that it stands on", of(opA, opB, opC, opD), first, of(opA, opB, opC, opD), of(opA, opB, opC, opD)},
		{"one not there", of(opA, opC, opD), first, of(opA, opC, opD), of(opA)},
		{"the first one not there", of(opB, opC, opD, opY), first, of(opB, opC, opD, opY), of(opY)},
		{"the last one not there", of(opA, opB, opD), first, of(opA, opB, opD), of(opA, opB)},
		{"all not there", of(opD), first, of(opD), nil},
		{"not there, homed elsewhere", of(opC, opM), opM.Id, of(opC), of(opC)},
		{"not there, homed in each of both", of(opD, opM), opM.Id, of(opD), nil},
		{"not there, homed elsewhere alone", of(opC, opD, opM), opM.Id, of(opC, opD), of(opC, opD)},
		{"what others stand on elsewhere", of(opA, opC, opM), first, of(opA), of(opA)},
		{"there, homed elsewhere", of(opA, opB, opC, opM), opM.Id, of(opC), of(opC)},
		{"a mark alone, ahead of it", of(opM), first, nil, nil},
		{"a mark alone, behind it", of(opM), opM.Id, nil, nil},
		{"a mark and its join", of(opM, j), first, nil, nil},
		{"a join alone", of(j), first, nil, nil},
		{"a delete", of(opA, dA), first, of(opA, dA), of(opA, dA)},
		{"a delete of the last one", of(opA, opB, opC, dC), first, of(opA, opB, opC, dC), of(opA, opB, opC, dC)},
		{"deletes of each", of(opA, opB, opC, dA, dB, dC), first, of(opA, opB, opC, dA, dB, dC), of(opA, opB, opC, dA, dB, dC)},
		{"a delete twice", of(opA, dA, without(20, 0, opA.At...)), first, of(opA, dA, without(20, 0, opA.At...)), of(opA, dA, without(20, 0, opA.At...))},
		{"a delete of what is not there", of(opA, opB, dC), first, of(opA, opB, dC), of(opA, opB)},
		{"a delete alone", of(dA), first, of(dA), nil},
		{"a delete of what does not count", of(opA, opC, dC), first, of(opA, opC, dC), of(opA)},
		{"what stands on what is taken away", of(opA, opB, opC, dB), first, of(opA, opB, opC, dB), of(opA, opB, opC, dB)},
		{"deletes of what is homed elsewhere, ahead", of(opA, opB, opC, opM, dA, dB, dC), first, of(opA, opB, dA, dB), of(opA, opB, dA, dB)},
		{"deletes of what is homed elsewhere, behind", of(opA, opB, opC, opM, dA, dB, dC), opM.Id, of(opC, dC), of(opC, dC)},
		{"a delete of what is not there, behind", of(opA, opB, opM, dC), opM.Id, of(dC), nil},
		{"a delete of what is not there, ahead", of(opA, opC, opM, dB), first, of(opA, dB), of(opA)},
		{"a delete of what stands at a mark, of the mark", of(opM, dM), opM.Id, of(dM), of(dM)},
		{"a delete of what stands at a mark, ahead of it", of(opA, opB, opM, dM), first, of(opA, opB), of(opA, opB)},
		{"a delete of a mark that is joined", of(opA, opB, opM, dM, j), first, of(opA, opB, dM), of(opA, opB, dM)},
		{"a delete of a mark that is joined, B not there", of(opA, opM, dM, j), first, of(opA, dM), of(opA)},
		{"a delete of a mark that is not there", of(opA, opB, dM), first, of(opA, opB, dM), of(opA, opB)},
		{"a delete under a mark, of what is not there", of(opM, dU), opM.Id, of(dU), nil},
		{"a delete under a mark", of(opM, opU, dU), opM.Id, of(opU, dU), of(opU, dU)},
	})
}

// P14.1: what is stood on that is a mark: live, joined, or not there; of two, one under another one.
func TestStandsOnMarks(t *testing.T) {
	j := join(13, 0, opM.At...)
	n := mark(run(1, 0, 2), run(5, 1, 1), run(6, 0, 1), run(8, 2, 1))
	v := insert(run(1, 0, 2), run(5, 1, 1), run(6, 0, 1), run(8, 2, 1), run(9, 0, 1))
	jn := join(14, 0, n.At...)
	asksKnown(t, []known{
		{"a live one", of(opM, opU), opM.Id, of(opU), of(opU)},
		{"a live one, and what is ahead of it", of(opA, opB, opM, opU), first, of(opA, opB), of(opA, opB)},
		{"one that is joined", of(opA, opB, opM, opU, j), first, of(opA, opB, opU), of(opA, opB, opU)},
		{"one that is joined, B not there", of(opA, opM, opU, j), first, of(opA, opU), of(opA)},
		{"one that is joined, alone", of(opM, opU, j), first, of(opU), nil},
		{"one that is not there", of(opA, opB, opU), first, of(opA, opB, opU), of(opA, opB)},
		{"one that is not there, and joined", of(opA, opB, opU, j), first, of(opA, opB, opU), of(opA, opB)},
		{"two live ones", of(opM, n, v), n.Id, of(v), of(v)},
		{"two live ones, U there", of(opM, opU, n, v), opM.Id, of(opU), of(opU)},
		{"the outer one joined", of(opM, n, v, j), n.Id, of(v), of(v)},
		{"the outer one not there", of(n, v), n.Id, of(v), of(v)},
		{"the inner one joined", of(opM, opU, n, v, jn), opM.Id, of(opU, v), of(opU, v)},
		{"the inner one joined, U not there", of(opM, n, v, jn), opM.Id, of(v), nil},
		{"the inner one not there", of(opM, opU, v), opM.Id, of(opU, v), of(opU)},
		{"both joined", of(opA, opB, opM, opU, n, v, j, jn), first, of(opA, opB, opU, v), of(opA, opB, opU, v)},
		{"both joined, B not there", of(opA, opM, opU, n, v, j, jn), first, of(opA, opU, v), of(opA)},
		{"both joined, U not there", of(opA, opB, opM, n, v, j, jn), first, of(opA, opB, v), of(opA, opB)},
		{"both joined, M not there", of(opA, opB, opU, n, v, j, jn), first, of(opA, opB, opU, v), of(opA, opB)},
		{"both joined, N not there", of(opA, opB, opM, opU, v, j, jn), first, of(opA, opB, opU, v), of(opA, opB, opU)},
	})
}

// P14.1: what a place needs that lies in the midst of a run, at its ends, or in the run ahead.
func TestNeedsMidstOfRuns(t *testing.T) {
	whole := chain(10, 4)
	p := whole[3].At
	for i := range 5 {
		p = under(p, by(20+uint32(i), 3))
		whole = append(whole, insert(p...))
	}
	p = under(p, by(25, 0))
	whole = append(whole, insert(p...), without(40, 1, p...))
	tells(t, whole, first, whole, whole, api.OK)
	for i := range whole[:10] {
		l := slices.Concat(whole[:i], whole[i+1:])
		tells(t, l, first, l, whole[:i], api.OK)
	}
	// The section of a mark under one of them needs what stands behind that, and nothing ahead of it.
	for i, o := range whole[:9] {
		m := mark(under(o.At, by(30, 5))...)
		with := slices.Concat(whole[:10], of(m), whole[10:])
		tells(t, with, first, whole[:i+1], whole[:i+1], api.OK)
		tells(t, with, m.Id, whole[i+1:], whole[i+1:], api.OK)
		for k := range whole[:10] {
			l := slices.Concat(with[:k], with[k+1:])
			asks(t, l, ids(first, m.Id))
			all, counts := slices.Concat(whole[i+1:max(k, i+1)], whole[max(k, i)+1:]), whole[i+1:]
			if k > i {
				counts = whole[i+1 : k]
			}
			tells(t, l, m.Id, all, counts, api.OK)
		}
	}
}

// P14.1: places right at a mark's, under it, right ahead of it and right behind it; what of theirs is needed.
func TestAboutAMark(t *testing.T) {
	m := opM
	b := func(r ...api.Run) []api.Run { return append(at(run(1, 0, 2)), r...) }
	for _, c := range []struct {
		what  string
		p     []api.Run
		s     api.Id
		needs []api.Id
	}{
		{"the mark's parent", b(), first, ids(by(1, 0))},
		{"a younger brother", b(run(6, 0, 1)), first, ids(by(1, 0), by(2, 0))},
		{"one as old, of a greater replica", b(run(5, 2, 1)), first, ids(by(1, 0), by(2, 0))},
		{"deep under that", b(run(5, 2, 2), run(9, 0, 1)), first, ids(by(1, 0), by(2, 0), by(5, 2), by(6, 2))},
		{"the mark's youngest child", b(run(5, 1, 1), run(1<<30, 7, 1)), m.Id, nil},
		{"the mark's eldest child", b(run(5, 1, 1), run(6, 0, 1)), m.Id, nil},
		{"one that goes on in its run", b(run(5, 1, 2)), m.Id, nil},
		{"a child of that", b(run(5, 1, 3)), m.Id, ids(by(6, 1))},
		{"one as old, of a lesser replica", b(run(5, 0, 1)), m.Id, nil},
		{"under that", b(run(5, 0, 2)), m.Id, ids(by(5, 0))},
		{"an elder brother", b(run(4, 7, 1)), m.Id, nil},
		{"deep under that", b(run(4, 7, 2), run(8, 0, 2)), m.Id, ids(by(4, 7), by(5, 7), by(8, 0))},
		{"one that goes on in the parent's run", at(run(1, 0, 3)), m.Id, nil},
		{"under that, younger than the mark", at(run(1, 0, 3), run(9, 0, 1)), m.Id, ids(by(3, 0))},
		{"a younger brother of the parent", at(run(1, 0, 1), run(2, 1, 1)), first, ids(by(1, 0))},
		{"under that", at(run(1, 0, 1), run(2, 1, 2)), first, ids(by(1, 0), by(2, 1))},
		{"a younger one than all", at(run(1<<30, 0, 1)), first, nil},
	} {
		t.Run(c.what, func(t *testing.T) {
			asksNeeds(t, m, insert(c.p...), c.s, c.needs)
			if d := without(1<<30, 6, c.p...); op.Check(d) == api.OK {
				asksNeeds(t, m, d, c.s, append(slices.Clone(c.needs), endOf(c.p)))
			}
		})
	}
	d := without(9, 0, m.At...)
	tells(t, of(m, d), m.Id, of(d), of(d), api.OK)
	tells(t, of(m, d), first, nil, nil, api.OK)
}

// asksNeeds asks whether content counts in a section with a mark and what it needs, and with none of these less.
func asksNeeds(t *testing.T, m, o api.Op, s api.Id, needs []api.Id) {
	t.Helper()
	var there []api.Op
	for p := o.At; len(p) > 0; p = parent(p) {
		if slices.Contains(needs, endOf(p)) {
			there = append(there, insert(p...))
		}
	}
	if len(there) != len(needs) {
		t.Fatalf("%v does not stand on all of %v", o, needs)
	}
	all := byStamps(slices.Concat(of(m, o), there)...)
	if !has(all, s, o) {
		t.Errorf("%v does not count in %v of %v", o, s, few(all))
	}
	asksAbout(t, all)
	for _, x := range there {
		l := slices.DeleteFunc(slices.Clone(all), func(y api.Op) bool { return y.Id == x.Id })
		if has(l, s, o) {
			t.Errorf("%v counts in %v without %v", o, s, x.Id)
		}
		asksAbout(t, l)
	}
}

// has is whether an operation is answered as one that counts in a section.
func has(l []api.Op, s api.Id, o api.Op) bool {
	got, e := Counts(l, s)
	return e == api.OK && slices.ContainsFunc(got, func(x api.Op) bool { return sameOp(x, o) })
}

// P14.1: what is there is an operation of the stamp, whichever it is: an insert at another place, a mark, a delete, a join.
func TestAnyOperationIsThere(t *testing.T) {
	a, o := insert(run(3, 0, 1)), insert(run(3, 0, 3))
	for _, x := range of(insert(run(4, 0, 1)), mark(run(4, 0, 1)), without(4, 0, run(1, 5, 1)), without(4, 0, a.At...), join(4, 0, run(1, 5, 1)), join(4, 0, a.At...)) {
		s := first
		if x.Kind == 2 {
			s = x.Id
		}
		if l := of(a, x, o); !has(l, s, o) {
			t.Errorf("%v does not count in %v of %v, which has all that it stands on", o, s, l)
		}
		if l := of(x, o); has(l, s, o) {
			t.Errorf("%v counts in %v of %v", o, s, l)
		}
		asksAbout(t, of(a, x, o))
		asksAbout(t, of(x, o))
	}
}

// P14.1: the order is that of stamps, where that of places is another one.
func TestOrderOfStamps(t *testing.T) {
	x, y, z := insert(run(1, 0, 1)), insert(run(2, 1, 1)), insert(run(1, 0, 1), run(3, 0, 1))
	d, w := without(4, 0, y.At...), insert(run(1, 0, 1), run(4, 1, 1))
	l := of(x, y, z, d, w)
	tells(t, l, first, l, l, api.OK)
	fall := alone(40, "id")
	tells(t, fall, first, fall, fall, api.OK)
	for _, l := range [][]api.Op{l, fall} {
		m := mark(run(1, 0, 1), run(2, 2, 1))
		asksAbout(t, byStamps(slices.Concat(l, of(m))...))
	}
}

// P14.1, P1: stamps that are no sections, in bags that may be: of marks that are joined, of content, of nothing there, such as may not be.
func TestRefusesSections(t *testing.T) {
	n := mark(run(2, 3, 1))
	dA, dN := without(7, 0, opA.At...), without(9, 0, n.At...)
	l := of(opA, n, opM, opU, dA, join(8, 0, opM.At...), dN, join(9, 1, run(3, 3, 1)))
	for what, s := range map[string]api.Id{
		"a mark that is joined": opM.Id, "an insert": opA.Id, "an insert under a mark": opU.Id, "a delete": by(7, 0), "a delete of a mark": by(9, 0), "a join": by(8, 0), "a join of nothing": by(9, 1),
		"what is joined, and not there": by(3, 3), "what is stood on, and not there": by(2, 0), "nothing there": by(4, 0), "a mark's time, another replica": by(2, 2), "a mark's replica, another time": by(3, 3),
		"a mark's replica and eight": by(2, 11), "no time": by(0, 1), "no time, the last replica": by(0, 255), "too late a time": by(1<<30+1, 0), "a mark's time and 2^31": by(1<<31+2, 3), "the greatest": by(math.MaxUint32, 255),
	} {
		t.Run(what, func(t *testing.T) {
			tells(t, l, s, nil, nil, api.ErrSection)
			tells(t, nil, s, nil, nil, api.ErrSection)
			tells(t, of(opA, opB), by(s.T, s.R|128), nil, nil, api.ErrSection)
		})
	}
	tells(t, l, n.Id, of(opA, opU, dA, dN), of(opA, dA, dN), api.OK)
	asksAbout(t, l)
}

// bad is operations that may not be.
func bad() []api.Op {
	return []api.Op{
		{}, {Kind: 1, Id: by(9, 0)}, {Kind: 3, Id: by(9, 0), At: at()}, {Kind: 255, Id: by(math.MaxUint32, 255), Point: math.MinInt},
		{Kind: 0, Id: by(9, 0), At: at(run(9, 0, 1))}, {Kind: 5, Id: by(9, 0), At: at(run(9, 0, 1))}, {Kind: 129, Id: by(9, 0), At: at(run(9, 0, 1)), Point: 97},
		{Kind: 1, Id: by(9, 0), At: at(run(8, 0, 1)), Point: 97}, {Kind: 2, Id: by(9, 0), At: at(run(9, 0, 1)), Point: 1}, {Kind: 3, Id: by(9, 0), At: at(run(1, 0, 1)), Point: 97},
		insert(run(0, 0, 1)), insert(run(9, 8, 1)), insert(run(1<<30+1, 0, 1)), insert(run(9, 0, 0)), insert(run(9, 0, math.MaxInt)), insert(run(1, 0, 4097)), insert(run(8, 0, 1), run(9, 0, 1)),
		{Kind: 1, Id: by(9, 0), At: at(run(9, 0, 1)), Point: 0xd800}, without(9, 0, run(9, 0, 1)), join(9, 0, run(9, 0, 1)), without(9, 7, run(1, 0, 9)), without(9, 8, run(1, 0, 1)),
	}
}

// refusesAll asks whether all calls refuse a bag, whatever stamp is told with it, and answer nothing beside the error.
func refusesAll(t *testing.T, what string, l []api.Op) {
	t.Helper()
	if mayBe(l) {
		t.Fatalf("%s may be: %v", what, brief(l))
	}
	for _, s := range append(stampsAbout(l), by(9, 0), by(5, 1)) {
		tells(t, l, s, nil, nil, api.ErrBad)
	}
}

// P1, P14.1: bags that may not be are refused by each of the three calls, with stamps that are no sections, too.
func TestAllRefuseWrongs(t *testing.T) {
	d, j := without(8, 0, opA.At...), join(9, 1, opM.At...)
	back := grown(40, 6, "imdj")
	slices.Reverse(back)
	for what, l := range map[string][]api.Op{
		"two whose stamps fall":        of(opB, opA),
		"two that fall by the replica": of(insert(run(2, 1, 1)), insert(run(2, 0, 1))),
		"an insert twice":              of(opA, opA),
		"a delete ahead of its insert": of(d, opA),
		"a mark twice":                 of(opA, opM, opM),
		"an insert and a mark in one":  of(opA, mark(run(1, 0, 1)), opB),
		"one that falls at the end":    of(opA, opB, opM, d, j, opC),
		"one that falls at the front":  of(opD, opA, opB, opC, opM),
		"all in another order":         back,
		"very many":                    alone(1<<14, "imdj"),
		"very many of nothing":         make([]api.Op, 1<<14),
		"very many, all the same":      slices.Repeat(of(opA), 1<<14),
		"good ones, and a zero one":    of(opA, opB, opM, api.Op{}),
	} {
		refusesAll(t, what, l)
	}
	for _, o := range bad() {
		if op.Check(o) != api.ErrBad {
			t.Fatalf("%v may be", o)
		}
		refusesAll(t, "one that may not be", of(o))
		refusesAll(t, "one that may not be ahead", of(o, opA, opM, opY, d, j))
		refusesAll(t, "one that may not be in the middle", of(opA, opM, o, without(10, 0, opA.At...)))
		refusesAll(t, "one that may not be at the end", of(opA, opM, opY, d, o))
	}
}

// several is operations of which all bags are asked: a chain, two marks in it, what stands under these, deletes of each kind, a join of each mark.
func several() []api.Op {
	n := mark(run(1, 0, 1), run(3, 1, 1))
	return byStamps(opA, opB, n, insert(run(1, 0, 1), run(3, 1, 1), run(4, 0, 1)), opC, opM, opU, insert(run(1, 0, 2), run(5, 1, 1), run(6, 0, 1), run(7, 1, 1)),
		opY, without(8, 0, opB.At...), without(8, 1, n.At...), join(9, 0, opM.At...), join(9, 1, n.At...), without(10, 0, opC.At...))
}

// P14.1: all bags of few operations.
func TestTellsAllOfFew(t *testing.T) {
	l := several()
	stamps := append(idsOf(l), first, by(2, 7), by(5, 9))
	for which := range 1 << len(l) {
		var some []api.Op
		for i, o := range l {
			if which>>i&1 == 1 {
				some = append(some, o)
			}
		}
		asks(t, some, stamps)
	}
}

// P14.1: bags of many lengths and kinds, with holes.
func TestTellsAll(t *testing.T) {
	counts, waits := 0, 0
	for _, x := range some() {
		if !mayBe(x.left) {
			t.Fatalf("%v may not be", brief(x.left))
		}
		asksAbout(t, x.left)
		_, content := inWords(x.left)
		for _, c := range content {
			if c.counts {
				counts++
			} else {
				waits++
			}
		}
	}
	if counts < 1000 || waits < 500 {
		t.Errorf("%d count, %d wait: too few to tell", counts, waits)
	}
}

// P14.1: bags of 1023 and of 1024 operations, and of more, which may not be.
func TestComesToMaxOps(t *testing.T) {
	whole := chain(3, 1025)
	tells(t, whole[:1024], first, whole[:1024], whole[:1024], api.OK)
	for _, i := range []int{0, 1, 511, 1023, 1024} {
		l := slices.Concat(whole[:i], whole[i+1:])
		tells(t, l, first, l, whole[:i], api.OK)
		tells(t, l, by(3, 0), nil, nil, api.ErrSection)
	}
	refusesAll(t, "a chain of 1025", whole)
	for _, kinds := range []string{"i", "m", "d", "j", "id", "mj", "im", "imdj", "iiiiid"} {
		asks(t, alone(1024, kinds), ids(first, by(10, 1), by(12, 1), by(14, 1), by(2052, 1), by(2054, 1), by(2056, 1), by(2058, 1)))
		asks(t, alone(1023, kinds), ids(first, by(12, 1), by(2054, 1), by(2056, 1)))
		refusesAll(t, "more than may be", alone(1025, kinds))
		refusesAll(t, "twice as many", alone(2048, kinds))
	}
	l := grown(1024, 3, "iiiiiiiiiiimdj")
	asks(t, l, append(stampsAbout(l)[:20], idsOf(l[900:920])...))
	refusesAll(t, "one more than may be", grown(1025, 3, "imdj"))
}

// P14.1: a version of as many spans as there are operations, and one of a span.
func TestVersionOfMany(t *testing.T) {
	for _, c := range []struct {
		l     []api.Op
		spans int
	}{{alone(1024, "i"), 1024}, {chain(9, 1024), 1}} {
		got, e := Version(c.l, first)
		if e != api.OK || len(got) != 1 || len(got[0].Spans) != c.spans || clock.Count(got) != 1024 {
			t.Errorf("Version of 1024 in %d spans: %d of %d, %d", c.spans, clock.Count(got), len(got), e)
		}
	}
}

// P14.1: places of the most stamps and of the most runs, marks deep in them, and what stands under these.
func TestLongPlaces(t *testing.T) {
	last, d := insert(run(1, 0, 4096)), without(5000, 1, run(1, 0, 4096))
	for _, c := range []struct {
		mark      int
		somewhere int
	}{{4095, 0}, {4094, 4095}, {4000, 4050}, {4000, 4001}, {3090, 3600}} {
		m := mark(run(1, 0, c.mark))
		l := of(m)
		for n := c.mark + 1; n < 4096; n++ {
			l = append(l, insert(run(1, 0, n)))
		}
		l = append(l, last, d)
		tells(t, l, m.Id, l[1:], l[1:], api.OK)
		tells(t, l, first, nil, nil, api.OK)
		if i := c.somewhere - c.mark; i > 0 {
			tells(t, slices.Concat(l[:i], l[i+1:]), m.Id, slices.Concat(l[1:i], l[i+1:]), l[1:i], api.OK)
		}
		tells(t, l[1:], first, l[1:], nil, api.OK)
	}
	var whole []api.Op
	var p []api.Run
	for i := range uint32(63) {
		p = under(p, by(i+1, uint8(i%2)))
		whole = append(whole, insert(p...))
	}
	p = under(p, by(70, 5))
	whole = append(whole, insert(p...), insert(under(p, by(71, 5))...), without(72, 0, p...))
	tells(t, whole, first, whole, whole, api.OK)
	for i := range 64 {
		with := slices.Clone(whole)
		with[i] = mark(whole[i].At...)
		tells(t, with[i:], with[i].Id, whole[i+1:], whole[i+1:], api.OK)
		tells(t, with, first, whole[:i], whole[:i], api.OK)
		l := slices.Concat(whole[:i], whole[i+1:])
		tells(t, l, first, l, whole[:i], api.OK)
	}
}

// sectionsOf is the sections of a bag that may be.
func sectionsOf(t *testing.T, l []api.Op) []api.Id {
	t.Helper()
	secs, e := home.All(l)
	if e != api.OK {
		t.Fatalf("All of %v: %d", brief(l), e)
	}
	return secs
}

// homeOf is the home of a place in a bag, both of which may be.
func homeOf(t *testing.T, l []api.Op, p []api.Run) api.Id {
	t.Helper()
	s, e := home.Of(l, p)
	if e != api.OK {
		t.Fatalf("Of(%v, %v): %d", brief(l), p, e)
	}
	return s
}

// P14.3: what counts is closed: what it stands on, homed in its section, counts, too, or is a mark.
func TestCountsIsClosed(t *testing.T) {
	marks, others := 0, 0
	for _, x := range some() {
		for _, s := range sectionsOf(t, x.left) {
			content, _ := Counts(x.left, s)
			for _, o := range content {
				p := o.At
				if o.Kind == 1 {
					p = parent(p)
				}
				for ; len(p) > 0 && homeOf(t, x.left, p) == s; p = parent(p) {
					on, there := bag.Find(x.left, endOf(p))
					switch {
					case there && on.Kind == 2:
						marks++
					case there && slices.ContainsFunc(content, func(y api.Op) bool { return y.Id == on.Id }):
						others++
					default:
						t.Fatalf("%v counts in %v of %v, and %v does not", o, s, brief(x.left), endOf(p))
					}
				}
			}
		}
	}
	if marks < 200 || others < 1000 {
		t.Errorf("%d marks, %d others: too few to tell", marks, others)
	}
}

// P14.3: all content is homed in one section, that of its place; what counts is part of it, and its stamps are the version.
func TestAllIsHomedOnce(t *testing.T) {
	for _, x := range some() {
		in := map[api.Id]int{}
		for _, s := range sectionsOf(t, x.left) {
			content, _ := Homed(x.left, s)
			for _, o := range content {
				in[o.Id]++
				if h := homeOf(t, x.left, o.At); h != s {
					t.Fatalf("%v is homed in %v of %v, and its place in %v", o, s, brief(x.left), h)
				}
			}
			counted, _ := Counts(x.left, s)
			for _, o := range counted {
				if !slices.ContainsFunc(content, func(y api.Op) bool { return sameOp(y, o) }) {
					t.Fatalf("%v counts in %v of %v, and is not homed there", o, s, brief(x.left))
				}
			}
			want, _ := clock.Of(idsOf(counted))
			if v, _ := Version(x.left, s); !clock.Same(v, want) {
				t.Fatalf("the version of %v of %v: %v; %v count", s, brief(x.left), v, few(counted))
			}
		}
		for _, o := range x.left {
			if want := int(o.Kind % 2); in[o.Id] != want {
				t.Fatalf("%v is homed in %d sections of %v", o, in[o.Id], brief(x.left))
			}
		}
	}
}

// counted is all that counts in a bag, in whichever section.
func counted(t *testing.T, l []api.Op) []api.Op {
	t.Helper()
	var out []api.Op
	for _, s := range sectionsOf(t, l) {
		content, _ := Counts(l, s)
		out = append(out, content...)
	}
	return out
}

// stays asks whether all that counted still counts with an operation more, each in the section in which it is homed then; it tells how many were homed elsewhere, and how much counts more than did, without that operation.
func stays(t *testing.T, l []api.Op, o api.Op) (moved, woken int) {
	t.Helper()
	with, e := bag.Add(l, o)
	if e != api.OK || len(with) != len(l)+1 {
		t.Fatalf("Add of %v to %v: %d", o, brief(l), e)
	}
	was := counted(t, l)
	for _, x := range was {
		s := homeOf(t, with, x.At)
		if !has(with, s, x) {
			t.Fatalf("%v no longer counts, in %v of %v with %v more", x, s, brief(l), o)
		}
		if s != homeOf(t, l, x.At) {
			moved++
		}
	}
	woken = len(counted(t, with)) - len(was)
	if slices.ContainsFunc(counted(t, with), func(x api.Op) bool { return x.Id == o.Id }) {
		woken--
	}
	return moved, woken
}

// about is inserts, deletes or marks that a bag has not, of stamps on all sides of its own, that stand at places about it.
func about(l []api.Op, kind uint8) []api.Op {
	var out []api.Op
	for i, p := range placesAbout(l) {
		o := api.Op{Kind: kind, Id: endOf(p), At: p}
		switch kind {
		case 1:
			o.Point = 98
		case 3:
			o.Id = by(endOf(p).T+1+uint32(i%3), uint8(i%8))
		}
		there := slices.ContainsFunc(l, func(x api.Op) bool { return x.Id == o.Id })
		if !there && op.Check(o) == api.OK {
			out = append(out, o)
		}
	}
	return out
}

// missing is what a bag had, and, of its stamps, content of other places.
func missing(x torn) []api.Op {
	var out []api.Op
	for _, o := range x.gone {
		out = append(out, o, insert(run(o.Id.T, o.Id.R, 1)), without(o.Id.T, o.Id.R, run(1, 5, 1)))
	}
	return out
}

// P14.3: with content more, whatever it is, all that counted counts, where it was homed; so it does where something waited for that.
func TestContentAdded(t *testing.T) {
	woken, plain := 0, 0
	for _, x := range some() {
		if len(x.left) > 21 {
			continue
		}
		more := missing(x)
		for i, o := range append(about(x.left, 1), about(x.left, 3)...) {
			if len(x.left) < 3 || i%11 == 0 {
				more = append(more, o)
			}
		}
		for _, o := range more {
			if o.Kind%2 == 0 {
				continue
			}
			moved, n := stays(t, x.left, o)
			if moved > 0 || n < 0 {
				t.Fatalf("%v more homes %d of %v elsewhere, %d more count", o, moved, brief(x.left), n)
			}
			if n > 0 {
				woken++
			} else {
				plain++
			}
		}
	}
	if woken < 100 || plain < 1000 {
		t.Errorf("%d waited for, %d not: too few to tell", woken, plain)
	}
}

// P14.3: with a mark more all that counted counts in the section in which it is homed then; so it does where something waited for the mark, and where that is joined.
func TestMarkAdded(t *testing.T) {
	moved, woken, plain := 0, 0, 0
	for _, x := range some() {
		if len(x.left) > 21 {
			continue
		}
		var more []api.Op
		for i, o := range slices.Concat(x.gone, about(x.left, 2)) {
			if i < len(x.gone) || len(x.left) < 6 || i%5 == 0 {
				more = append(more, o)
			}
		}
		for _, o := range more {
			if o.Kind != 2 {
				continue
			}
			n, m := stays(t, x.left, o)
			switch {
			case n > 0:
				moved++
			case m > 0:
				woken++
			default:
				plain++
			}
		}
	}
	if moved < 500 || woken < 50 || plain < 500 {
		t.Errorf("%d home elsewhere, %d waited for, %d neither: too few to tell", moved, woken, plain)
	}
}

// P14.3: content and marks more, one by one, from none to all, in some order: what counted once counts on, and at last all that the whole bag has.
func TestAllAdded(t *testing.T) {
	for seed := range uint32(40) {
		whole := grown(24, seed, "iiiiidm")
		d := &dice{seed}
		var l []api.Op
		for left := slices.Clone(whole); len(left) > 0; {
			i := d.under(len(left))
			stays(t, l, left[i])
			l = byStamps(append(l, left[i])...)
			left = slices.Delete(left, i, i+1)
		}
		if !sameOps(l, whole) {
			t.Fatalf("%v is not %v again", brief(l), brief(whole))
		}
		asksAbout(t, l)
	}
}

// mixed is a bag whose places are made of few stamps by chance, so that many a stamp is that of another thing than the element that a place tells.
func mixed(d *dice) []api.Op {
	var l []api.Op
	for time := range uint32(9) {
		for r := range uint8(2) {
			id := by(time+2, r)
			var p []api.Run
			for t := range time + 1 {
				if d.under(2) > 0 {
					p = under(p, by(t+1, uint8(d.under(2))))
				}
			}
			o := api.Op{Kind: uint8(1 + d.under(4)), Id: id, At: p}
			switch o.Kind {
			case 1:
				o.At, o.Point = under(p, id), 97
			case 2:
				o.At = under(p, id)
			}
			if op.Check(o) == api.OK && d.under(3) > 0 {
				l = append(l, o)
			}
		}
	}
	return l
}

// P14.1, P14.3: bags in which a stamp may be another thing's than the element that a place tells: what counts, and that it still does with content or a mark more.
func TestMixedBags(t *testing.T) {
	d := &dice{1}
	moved, woken := 0, 0
	for range 400 {
		l := mixed(d)
		asksAbout(t, l)
		for i, o := range slices.Concat(about(l, 1), about(l, 2), about(l, 3)) {
			if i%23 > 0 {
				continue
			}
			n, m := stays(t, l, o)
			moved, woken = moved+n, woken+m
		}
	}
	if moved < 100 || woken < 500 {
		t.Errorf("%d homed elsewhere, %d waited: too few to tell", moved, woken)
	}
}

// memory is a bag's, with what lies around it: other operations, and, around each place, other runs.
type memory struct {
	ops    []api.Op
	places [][]api.Run
}

// lay is a bag as it is, in memory where others are around.
func lay(l []api.Op) (memory, []api.Op) {
	m := memory{ops: slices.Concat(of(insert(run(1, 0, 1))), l, of(insert(run(1<<30, 6, 1)), insert(run(1<<30, 7, 1))))}
	for i, o := range l {
		p := slices.Concat(at(run(1, 0, 1)), o.At, at(run(9, 9, 9), run(8, 8, 8)))
		m.places = append(m.places, p)
		m.ops[1+i].At = p[1 : 1+len(o.At)]
	}
	return m, m.ops[1 : 1+len(l)]
}

// copied is a memory as it is now.
func (m memory) copied() memory {
	was := memory{ops: slices.Clone(m.ops)}
	for _, p := range m.places {
		was.places = append(was.places, slices.Clone(p))
	}
	return was
}

// same is whether nothing was changed: no number, and no place is another memory's.
func (m memory) same(was memory) bool {
	for i, p := range m.places {
		in := m.ops[1+i].At
		if !slices.Equal(p, was.places[i]) || len(in) > 0 && &in[0] != &p[1] {
			return false
		}
	}
	return sameOps(m.ops, was.ops)
}

// spoil writes over all that a bag and the places in it have room for.
func (m memory) spoil() {
	for _, p := range m.places {
		spoilPlace(p)
	}
	for i := range m.ops {
		m.ops[i] = insert(run(78, 6, 1))
	}
}

// spoilPlace writes over all that a place has room for.
func spoilPlace(p []api.Run) {
	p = p[:cap(p)]
	for i := range p {
		p[i] = run(77, 7, 77)
	}
}

// clone is operations in new memory.
func clone(l []api.Op) []api.Op {
	var out []api.Op
	for _, o := range l {
		o.At = slices.Clone(o.At)
		out = append(out, o)
	}
	return out
}

// P14.2: bags are only read, by each call, such as may not be too.
func TestOnlyReadsBags(t *testing.T) {
	var bags [][]api.Op
	for _, x := range some() {
		bags = append(bags, x.left)
	}
	for _, o := range bad() {
		bags = append(bags, of(opA, opM, o, without(1<<29, 0, opA.At...)))
	}
	for _, l := range bags {
		m, in := lay(l)
		was := m.copied()
		for _, s := range stampsAbout(l) {
			Homed(in, s)
			Counts(in, s)
			Version(in, s)
			if !m.same(was) {
				t.Fatalf("%v is turned, asked of %v", brief(l), s)
			}
		}
	}
}

// P14.2: operations that are answered are new memory, of the bag's, of another answer's and of each other's: they stay as they are when one of these is changed.
func TestOperationsAreNewMemory(t *testing.T) {
	calls := map[string]func([]api.Op, api.Id) ([]api.Op, api.Errno){"Homed": Homed, "Counts": Counts}
	for _, x := range some() {
		for _, s := range sectionsOf(t, x.left) {
			for name, call := range calls {
				m, in := lay(x.left)
				was := m.copied()
				one, _ := call(in, s)
				two, _ := call(in, s)
				want := clone(one)
				for i := range one {
					if !sameOps(one[i:], want[i:]) {
						t.Fatalf("the places of %s(%v, in %v) share memory", name, brief(x.left), s)
					}
					spoilPlace(one[i].At)
				}
				one = one[:cap(one)]
				for i := range one {
					one[i] = insert(run(77, 7, 1))
				}
				if !m.same(was) || !sameOps(two, want) {
					t.Fatalf("%s(%v, in %v) shares memory", name, brief(x.left), s)
				}
				m.spoil()
				if !sameOps(two, want) {
					t.Fatalf("%s(%v, in %v) changes with what was handed in", name, brief(x.left), s)
				}
			}
		}
	}
}

// P14.2: so it is with the clocks that Version answers.
func TestVersionIsNewMemory(t *testing.T) {
	for _, x := range some() {
		for _, s := range sectionsOf(t, x.left) {
			m, in := lay(x.left)
			was := m.copied()
			one, _ := Version(in, s)
			two, _ := Version(in, s)
			want := clock.Twin(one)
			for i := range one {
				if !sameClock(one[i:], want[i:]) {
					t.Fatalf("the spans of Version(%v, of %v) share memory", brief(x.left), s)
				}
				spans := one[i].Spans[:cap(one[i].Spans)]
				for k := range spans {
					spans[k] = api.Span{From: 77, To: 78}
				}
			}
			one = one[:cap(one)]
			for i := range one {
				one[i] = api.Times{R: 7}
			}
			if !m.same(was) || !sameClock(two, want) {
				t.Fatalf("Version(%v, of %v) shares memory", brief(x.left), s)
			}
			m.spoil()
			if !sameClock(two, want) {
				t.Fatalf("Version(%v, of %v) changes with what was handed in", brief(x.left), s)
			}
		}
	}
}

// P1, P2: nothing is kept from call to call: not the stamps of another bag, not its sections, not an error.
func TestKeepsNothing(t *testing.T) {
	l := some()
	for i := range l {
		left := l[len(l)-1-i].left
		asksAbout(t, left[:min(4, len(left))])
	}
	for range 3 {
		tells(t, of(opA, opB, opC, opM), opM.Id, of(opC), of(opC), api.OK)
		tells(t, of(opA, opC), opM.Id, nil, nil, api.ErrSection)
		tells(t, of(opA, opC), first, of(opA, opC), of(opA), api.OK)
		refusesAll(t, "one twice", of(opA, opA))
		tells(t, of(opC, opM), opM.Id, of(opC), of(opC), api.OK)
		tells(t, of(opC), first, of(opC), nil, api.OK)
	}
}

// bagFrom is a bag of what bytes tell: each four a kind, a stamp, and an element to stand under or to take away; some are not put in, so that others wait for them.
func bagFrom(b []byte) []api.Op {
	var l []api.Op
	places := [][]api.Run{nil}
	id := by(0, 7)
	for ; len(b) >= 4; b = b[4:] {
		if r := b[1] % 8; r > id.R && b[1] >= 128 {
			id.R = r
		} else {
			id = by(id.T+1+uint32(b[1]>>5), r)
		}
		p := places[int(b[2])%len(places)]
		o := api.Op{Kind: b[0] % 6, Id: id, At: p}
		switch {
		case o.Kind < 3:
			o.At = under(p, id)
			places = append(places, o.At)
		case endOf(p).T == 0:
			o.At = at(run(uint32(b[3]), b[2]%8, 1+int(b[3]%3)))
		}
		if o.Kind == 1 {
			o.Point = int(b[3])
		}
		if b[0] < 192 {
			l = append(l, o)
		}
	}
	return l
}

// P1, P14.1 to P14.3: whatever bag and stamp, such as may not be too.
func FuzzCounts(f *testing.F) {
	f.Add([]byte{1, 0, 0, 97, 1, 0, 1, 98, 2, 1, 2, 0, 1, 0, 2, 99, 3, 2, 3, 0}, uint32(3), uint8(1))
	f.Add([]byte{1, 0, 0, 97, 193, 0, 1, 98, 1, 0, 2, 99, 2, 1, 2, 0, 4, 2, 4, 0, 3, 0, 3, 0}, uint32(0), uint8(0))
	f.Add([]byte{2, 0, 0, 0, 2, 1, 1, 0, 1, 1, 2, 0, 4, 0, 1, 0, 3, 129, 3, 0}, uint32(2), uint8(1))
	f.Add([]byte{5, 0, 0, 0}, uint32(1<<30), uint8(7))
	f.Add([]byte{3, 64, 0, 1, 193, 3, 0, 2, 1, 9, 1, 0, 3, 9, 1, 0}, uint32(1), uint8(1))
	f.Fuzz(func(t *testing.T, b []byte, time uint32, r uint8) {
		// Long ones are asked elsewhere: here many are, fast.
		l := bagFrom(b[:min(len(b), 160)])
		m, in := lay(l)
		was := m.copied()
		asks(t, in, append(stampsAbout(l), by(time, r)))
		if !m.same(was) {
			t.Fatalf("%v is turned", brief(l))
		}
		if o := insert(run(time, r, 1)); mayBe(l) && op.Check(o) == api.OK && !slices.ContainsFunc(l, func(x api.Op) bool { return x.Id == o.Id }) {
			stays(t, l, o)
			stays(t, l, mark(o.At...))
		}
	})
}
