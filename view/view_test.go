package view

import (
	"math"
	"slices"
	"testing"

	"octavo/api"
	"octavo/bag"
	"octavo/cover"
	"octavo/home"
	"octavo/op"
)

// run is so many stamps by r from t on.
func run(t uint32, r uint8, many int) api.Run {
	return api.Run{T: t, R: r, Many: many}
}

// at is a place of some runs.
func at(l ...api.Run) []api.Run {
	return l
}

// by is a stamp.
func by(t uint32, r uint8) api.Id {
	return api.Id{T: t, R: r}
}

// of is a bag of some operations.
func of(l ...api.Op) []api.Op {
	return l
}

// ids is some stamps.
func ids(l ...api.Id) []api.Id {
	return l
}

// first is the first section.
var first = api.Id{}

// endOf is the last stamp of a place; the zero one, if it has none.
func endOf(p []api.Run) api.Id {
	if len(p) == 0 {
		return first
	}
	r := p[len(p)-1]
	return by(r.T+uint32(r.Many)-1, r.R)
}

// letter is an insert of a code point.
func letter(n int, p ...api.Run) api.Op {
	return api.Op{Kind: 1, Id: endOf(p), At: p, Point: n}
}

// insert is one of a code point of one to four bytes that hangs on its stamp.
func insert(p ...api.Run) api.Op {
	id := endOf(p)
	n := int(id.T)*5 + int(id.R)
	switch n % 4 {
	case 0:
		return letter(n%0x80, p...)
	case 1:
		return letter(0x80+n%0x780, p...)
	case 2:
		return letter(0x800+n%0xd000, p...)
	}
	return letter(0x10000+n%0x100000, p...)
}

func mark(p ...api.Run) api.Op {
	return api.Op{Kind: 2, Id: endOf(p), At: p}
}

func without(t uint32, r uint8, p ...api.Run) api.Op {
	return api.Op{Kind: 3, Id: by(t, r), At: p}
}

func join(t uint32, r uint8, p ...api.Run) api.Op {
	return api.Op{Kind: 4, Id: by(t, r), At: p}
}

// before is whether one stamp is less than another one, by the words of chapter 5.
func before(a, b api.Id) bool {
	return a.T < b.T || a.T == b.T && a.R < b.R
}

// byStamps puts operations in the order of their stamps.
func byStamps(l ...api.Op) []api.Op {
	slices.SortFunc(l, func(a, b api.Op) int {
		switch {
		case before(a.Id, b.Id):
			return -1
		case before(b.Id, a.Id):
			return 1
		}
		return 0
	})
	return l
}

// stampsOf is the stamps of a place that may be.
func stampsOf(p []api.Run) []api.Id {
	var l []api.Id
	for _, r := range p {
		for n := range r.Many {
			l = append(l, by(r.T+uint32(n), r.R))
		}
	}
	return l
}

// ahead is whether one place is ahead of another one, by the words of chapter 6, of their stamps.
func ahead(a, b []api.Id) bool {
	for i := range min(len(a), len(b)) {
		if a[i] != b[i] {
			return before(b[i], a[i])
		}
	}
	return len(a) < len(b)
}

// stands is whether a place is the beginning or may be, by the words of chapter 6.
func stands(p []api.Run) bool {
	many, end := 0, first
	for i, r := range p {
		if r.R > 7 || r.T < 1 || r.Many < 1 || r.Many > 4096 || int(r.T)+r.Many-1 > 1<<30 {
			return false
		}
		if i > 0 && (r.T <= end.T || by(r.T-1, r.R) == end) {
			return false
		}
		many, end = many+r.Many, endOf(p[:i+1])
	}
	return len(p) <= 64 && many <= 4096
}

// under is the place of a child, by the words of chapter 6, whether it may be or not.
func under(p []api.Run, id api.Id) []api.Run {
	q := slices.Clone(p)
	if end := len(q) - 1; end >= 0 && endOf(q) == by(id.T-1, id.R) {
		q[end].Many++
		return q
	}
	return append(q, run(id.T, id.R, 1))
}

// parent is a place without its last stamp.
func parent(p []api.Run) []api.Run {
	q := slices.Clone(p)
	end := len(q) - 1
	if end < 0 || q[end].Many == 1 {
		return q[:max(0, end)]
	}
	q[end].Many--
	return q
}

// mayBe is what bags that may be are, by the words of chapter 11.
func mayBe(l []api.Op) bool {
	for i, o := range l {
		if op.Check(o) != api.OK || i > 0 && !before(l[i-1].Id, o.Id) {
			return false
		}
	}
	return len(l) <= 1024
}

// inOrder is a section by the words of chapter 13: its name, and the stamps of where it begins.
type inOrder struct {
	id   api.Id
	from []api.Id
}

// sectionsInWords is the sections of a bag that may be, in order.
func sectionsInWords(l []api.Op) []inOrder {
	gone := map[api.Id]int{}
	for _, o := range l {
		if o.Kind == 4 {
			gone[endOf(o.At)]++
		}
	}
	out := []inOrder{{}}
	for _, o := range l {
		if o.Kind != 2 || gone[o.Id] > 0 {
			continue
		}
		s := inOrder{o.Id, stampsOf(o.At)}
		i := 1
		for i < len(out) && ahead(out[i].from, s.from) {
			i++
		}
		out = slices.Insert(out, i, s)
	}
	return out
}

// homeInWords is the home of a place, by its stamps: that of the last section that is not behind it.
func homeInWords(secs []inOrder, p []api.Id) api.Id {
	for _, s := range slices.Backward(secs) {
		if !ahead(p, s.from) {
			return s.id
		}
	}
	return first
}

// counted is content that counts, by the words of chapter 14: its home, and the stamps of its place.
type counted struct {
	op   api.Op
	home api.Id
	all  []api.Id
}

// countsInWords is all content of a bag that counts.
func countsInWords(l []api.Op, secs []inOrder) []counted {
	held := map[api.Id]int{}
	for _, o := range l {
		held[o.Id]++
	}
	var out []counted
content:
	for _, o := range l {
		if o.Kind%2 == 0 {
			continue
		}
		c := counted{op: o, all: stampsOf(o.At)}
		c.home = homeInWords(secs, c.all)
		for i, id := range c.all {
			if held[id] == 0 && homeInWords(secs, c.all[:i+1]) == c.home {
				continue content
			}
		}
		out = append(out, c)
	}
	return out
}

// inWords is what has to be seen of the sections of a bag.
type inWords struct {
	bad  bool
	secs []inOrder
	seen map[api.Id][]counted
}

// wordsOf is what has to be seen of each section of a bag, by the words of chapter 15.
func wordsOf(l []api.Op) inWords {
	if !mayBe(l) {
		return inWords{bad: true}
	}
	w := inWords{secs: sectionsInWords(l), seen: map[api.Id][]counted{}}
	content := countsInWords(l, w.secs)
	type end struct{ home, last api.Id }
	away := map[end]int{}
	for _, c := range content {
		if c.op.Kind == 3 {
			away[end{c.home, endOf(c.op.At)}]++
		}
	}
	for _, c := range content {
		if c.op.Kind == 1 && away[end{c.home, c.op.Id}] == 0 {
			w.seen[c.home] = append(w.seen[c.home], c)
		}
	}
	for _, l := range w.seen {
		slices.SortFunc(l, func(a, b counted) int {
			if ahead(a.all, b.all) {
				return -1
			}
			return 1
		})
	}
	return w
}

// refusal is what calls about a section are refused with: OK, if it is one.
func (w inWords) refusal(s api.Id) api.Errno {
	switch {
	case w.bad:
		return api.ErrBad
	case !slices.ContainsFunc(w.secs, func(x inOrder) bool { return x.id == s }):
		return api.ErrSection
	}
	return api.OK
}

// elements is what has to be answered of a section.
func (w inWords) elements(s api.Id) []api.Element {
	var out []api.Element
	for _, c := range w.seen[s] {
		out = append(out, api.Element{Id: c.op.Id, At: c.op.At, Point: c.op.Point})
	}
	return out
}

// offset is how much has to be told to stand ahead of a place, and with which error.
func (w inWords) offset(s api.Id, p []api.Run) (int, api.Errno) {
	if e := w.refusal(s); e != api.OK {
		return 0, e
	}
	if !stands(p) {
		return 0, api.ErrBad
	}
	n := 0
	for all := stampsOf(p); n < len(w.seen[s]) && ahead(w.seen[s][n].all, all); {
		n++
	}
	return n, api.OK
}

// textOf is the text of some elements.
func textOf(l []api.Element) string {
	var out []rune
	for _, x := range l {
		out = append(out, rune(x.Point))
	}
	return string(out)
}

// sameElement is whether all fields of two elements are the same.
func sameElement(a, b api.Element) bool {
	return a.Id == b.Id && a.Point == b.Point && slices.Equal(a.At, b.At)
}

// same is whether two lists of elements are, in the same order.
func same(a, b []api.Element) bool {
	return slices.EqualFunc(a, b, sameElement)
}

// sameOps is whether two bags are the same.
func sameOps(a, b []api.Op) bool {
	return slices.EqualFunc(a, b, func(x, y api.Op) bool {
		return x.Kind == y.Kind && x.Id == y.Id && x.Point == y.Point && slices.Equal(x.At, y.At)
	})
}

// brief is as much of some operations as is short enough to be told.
func brief(l []api.Op) []api.Op {
	l = slices.Clone(l[:min(len(l), 16)])
	for i, o := range l {
		l[i].At = o.At[:min(len(o.At), 5)]
	}
	return l
}

// few is the stamps of as many elements as are short enough to be told.
func few(l []api.Element) []api.Id {
	var out []api.Id
	for _, x := range l[:min(len(l), 16)] {
		out = append(out, x.Id)
	}
	return out
}

// indices is those at the edges of a list, and all of a short one.
func indices(n int) []int {
	l := []int{math.MinInt, -2, -1, n, n + 1, math.MaxInt}
	for k := range n {
		if n <= 4 || k < 2 || k >= n-2 || k == n/2 {
			l = append(l, k)
		}
	}
	return l
}

// badPlaces is places that are neither the beginning nor may be.
func badPlaces() [][]api.Run {
	return [][]api.Run{
		at(api.Run{}), at(run(0, 0, 1)), at(run(1, 8, 1)), at(run(1, 0, 0)), at(run(1, 0, -1)), at(run(1, 0, 4097)), at(run(1<<30, 0, 2)), at(run(1<<30+1, 0, 1)),
		at(run(1, 0, 1), run(2, 0, 1)), at(run(1, 0, 1), run(1, 1, 1)), at(run(5, 0, 1), run(4, 1, 1)), at(run(1, 0, 4096), run(5000, 1, 1)), at(run(math.MaxUint32, 255, math.MaxInt)), manyRuns(65),
	}
}

// manyRuns is a place of so many runs.
func manyRuns(n int) []api.Run {
	var p []api.Run
	for i := range n {
		p = append(p, run(uint32(i+1), uint8(i%2), 1))
	}
	return p
}

// placesAbout is the beginning, places that may not be, those of some operations, of their parents, right ahead of them, right behind them, and some about them.
func placesAbout(l []api.Op) [][]api.Run {
	out := append(badPlaces()[:3], nil, at(), at(run(1, 0, 1)), at(run(1<<30, 7, 1)))
	for _, o := range l {
		p, end := parent(o.At), endOf(o.At)
		younger := under(p, by(end.T+1, 6))
		out = append(out, o.At, p, younger, under(younger, by(end.T+3, 5)), under(p, by(end.T, end.R+1)), under(p, by(1<<30, 7)))
		out = append(out, under(p, by(end.T, end.R-1)), under(p, by(end.T-1, 7)), under(p, by(endOf(p).T+1, 0)))
		out = append(out, under(o.At, by(1<<30, 7)), under(o.At, by(end.T+1, 0)), under(o.At, by(end.T+1, end.R)), under(under(o.At, by(end.T+1, 4)), by(end.T+2, 4)))
	}
	return out
}

// sample is a bag's operations; of a long one those at its ends, and some between.
func sample(l []api.Op) []api.Op {
	var out []api.Op
	for i, o := range l {
		if len(l) <= 12 || i < 4 || i >= len(l)-4 || i%(len(l)/6) == 0 {
			out = append(out, o)
		}
	}
	return out
}

// stampsAbout is stamps of the edges, of a bag's operations, of the places in it, and some beside them.
func stampsAbout(l []api.Op) []api.Id {
	out := ids(first, by(0, 1), by(0, 255), by(1, 0), by(1, 7), by(1, 8), by(1<<30, 0), by(1<<30+1, 0), by(math.MaxUint32, 255))
	for _, o := range sample(l) {
		out = append(out, o.Id, endOf(o.At), endOf(parent(o.At)), by(o.Id.T, o.Id.R+8), by(o.Id.T+1, o.Id.R), by(o.Id.T, o.Id.R^1))
	}
	return out
}

// tells asks whether all calls tell what has to be seen of a section, or that they refuse.
func tells(t *testing.T, l []api.Op, s api.Id, want []api.Element, refusal api.Errno) {
	t.Helper()
	if got, e := Elements(l, s); !same(got, want) || e != refusal {
		t.Fatalf("Elements(%d, %v, in %v): %v, %d; want %v, %d", len(l), brief(l), s, few(got), e, few(want), refusal)
	}
	if got, e := Text(l, s); got != textOf(want) || e != refusal {
		t.Fatalf("Text(%d, %v, in %v): %.80q, %d; want %.80q, %d", len(l), brief(l), s, got, e, textOf(want), refusal)
	}
	for _, k := range indices(len(want)) {
		x, r := api.Element{}, refusal
		switch {
		case refusal != api.OK:
		case k < 0 || k >= len(want):
			r = api.ErrArg
		default:
			x = want[k]
		}
		if got, e := At(l, s, k); !sameElement(got, x) || e != r {
			t.Fatalf("At(%d, %v, in %v, %d): %v, %d; want %v, %d", len(l), brief(l), s, k, got, e, x, r)
		}
	}
}

// offsets asks whether Offset tells what it has to of some places.
func offsets(t *testing.T, l []api.Op, w inWords, s api.Id, places [][]api.Run) {
	t.Helper()
	for _, p := range places {
		want, refusal := w.offset(s, p)
		if got, e := Offset(l, s, p); got != want || e != refusal {
			t.Fatalf("Offset(%d, %v, in %v, of %v): %d, %d; want %d, %d", len(l), brief(l), s, p, got, e, want, refusal)
		}
	}
}

// asks asks all calls of some stamps, and of places if it is a section's.
func asks(t *testing.T, l []api.Op, stamps []api.Id, places [][]api.Run) {
	t.Helper()
	w := wordsOf(l)
	for _, s := range stamps {
		refusal := w.refusal(s)
		tells(t, l, s, w.elements(s), refusal)
		if refusal == api.OK {
			offsets(t, l, w, s, places)
		} else {
			offsets(t, l, w, s, places[:min(6, len(places))])
		}
	}
}

// asksAbout asks all calls of what stands in a bag, and about it, each section of it among that.
func asksAbout(t *testing.T, l []api.Op) {
	t.Helper()
	stamps := stampsAbout(l)
	for _, o := range l {
		if o.Kind == 2 && !slices.Contains(stamps, o.Id) {
			stamps = append(stamps, o.Id)
		}
	}
	asks(t, l, stamps, placesAbout(sample(l)))
}

// dice are numbers that look like chance, and are the same each time.
type dice struct {
	n uint32
}

func (d *dice) under(n int) int {
	d.n = d.n*1664525 + 1013904223
	return int(d.n>>8) % n
}

// next is a stamp behind one: of the same time, the next one, or later.
func (d *dice) next(id api.Id) api.Id {
	switch d.under(6) {
	case 0:
		return by(id.T+1, id.R)
	case 1:
		if id.R < 7 {
			return by(id.T, id.R+1)
		}
	}
	return by(id.T+1+uint32(d.under(4)/3), uint8(d.under(4)))
}

// grown is a bag of so many operations: elements under others, and what takes elements away; kinds tells how the kinds are shared out.
func grown(n int, seed uint32, kinds string) []api.Op {
	d := &dice{seed}
	var l []api.Op
	places := [][]api.Run{nil}
	id := by(3, 0)
	for range n {
		id = d.next(id)
		p := places[d.under(len(places))]
		if d.under(2) > 0 {
			p = places[max(0, len(places)-1-d.under(4))]
		}
		if endOf(p).T >= id.T || len(p) > 60 {
			p = nil
		}
		goal := p
		if len(goal) == 0 {
			goal = at(run(uint32(1+d.under(2)), uint8(d.under(8)), 1))
		}
		switch kinds[d.under(len(kinds))] {
		case 'i':
			l = append(l, insert(under(p, id)...))
		case 'm':
			l = append(l, mark(under(p, id)...))
		case 'd':
			l = append(l, without(id.T, id.R, goal...))
		case 'j':
			l = append(l, join(id.T, id.R, goal...))
		}
		if o := l[len(l)-1]; o.Kind < 3 {
			places = append(places, o.At)
		}
	}
	return l
}

// holed is a bag without some of its operations, one of so many.
func holed(l []api.Op, one int, seed uint32) []api.Op {
	d := &dice{seed}
	var left []api.Op
	for _, o := range l {
		if d.under(one) > 0 {
			left = append(left, o)
		}
	}
	return left
}

// some is bags of many lengths and kinds, whole ones and such with holes.
func some() [][]api.Op {
	l := [][]api.Op{nil, of()}
	for i, kinds := range []string{"i", "id", "m", "im", "imdj", "iiid", "iid", "iiiidddmj", "iimmj", "iiiiiiiimdj", "mj"} {
		for k, n := range []int{1, 2, 3, 5, 8, 13, 21, 40} {
			for turn := range 4 {
				seed := uint32(i*1000 + k*100 + turn)
				all := grown(n, seed, kinds)
				if turn > 0 {
					all = holed(all, 3*turn, seed)
				}
				l = append(l, all)
			}
		}
	}
	return l
}

// mixed is a bag whose places are made of few stamps by chance, so that many a stamp is that of another thing than the element that a place tells.
func mixed(d *dice) []api.Op {
	var l []api.Op
	for time := range uint32(9) {
		for r := range uint8(2) {
			id := by(time+2, r)
			var p []api.Run
			for t := range time + 1 {
				if d.under(3) == 0 {
					p = under(p, by(t+1, uint8(d.under(2))))
				}
			}
			o := api.Op{Kind: uint8(1 + d.under(4)), Id: id, At: p}
			switch o.Kind {
			case 1:
				o = insert(under(p, id)...)
			case 2:
				o.At = under(p, id)
			}
			if op.Check(o) == api.OK && d.under(4) > 0 {
				l = append(l, o)
			}
		}
	}
	return l
}

// alone is so many operations of one kind, or of some in turn, side by side, the last one ahead of all.
func alone(n int, kinds string) []api.Op {
	var l []api.Op
	for i := range n {
		t := uint32(2*i + 10)
		switch kinds[i%len(kinds)] {
		case 'i':
			l = append(l, insert(run(t, 1, 1)))
		case 'm':
			l = append(l, mark(run(t, 1, 1)))
		case 'd':
			l = append(l, without(t, 1, run(t-2, 1, 1)))
		case 'j':
			l = append(l, join(t, 1, run(t-2, 1, 1)))
		}
	}
	return l
}

// chain is inserts one under another one, in one run from t on.
func chain(t uint32, n int) []api.Op {
	var l []api.Op
	for i := range n {
		l = append(l, insert(run(t, 0, i+1)))
	}
	return l
}

// elementsOf is what is seen of inserts, in their order.
func elementsOf(l ...api.Op) []api.Element {
	var out []api.Element
	for _, o := range l {
		out = append(out, api.Element{Id: o.Id, At: o.At, Point: o.Point})
	}
	return out
}

// The elements of what is known, in their order: Y, A, B under it, M under B, U under M, C under B (elder than M), D under C.
var (
	opA = letter('A', run(1, 0, 1))
	opB = letter('B', run(1, 0, 2))
	opC = letter('C', run(1, 0, 3))
	opD = letter('D', run(1, 0, 4))
	opM = mark(run(1, 0, 2), run(5, 1, 1))
	opU = letter('U', run(1, 0, 2), run(5, 1, 1), run(6, 0, 1))
	opY = letter('Y', run(7, 2, 1))
)

// known is a bag, a section of it, and the text that it has to show, each letter of it once in the bag.
type known struct {
	what string
	l    []api.Op
	s    api.Id
	text string
}

// asksKnown asks of each what is known, and all that is about it.
func asksKnown(t *testing.T, all []known) {
	t.Helper()
	for _, c := range all {
		t.Run(c.what, func(t *testing.T) {
			l := byStamps(c.l...)
			var want []api.Op
			for _, n := range c.text {
				want = append(want, l[slices.IndexFunc(l, func(o api.Op) bool { return o.Kind == 1 && o.Point == int(n) })])
			}
			tells(t, l, c.s, elementsOf(want...), api.OK)
			if got, e := Text(l, c.s); got != c.text || e != api.OK {
				t.Errorf("Text(%v, in %v): %q, %d; want %q", l, c.s, got, e, c.text)
			}
			asksAbout(t, l)
		})
	}
}

// P15.1: the chapter's own examples.
func TestExamples(t *testing.T) {
	a, b, c := letter('A', run(1, 0, 1)), letter('B', run(1, 0, 2)), letter('C', run(1, 0, 1), run(9, 1, 1))
	d := without(10, 1, b.At...)
	for _, x := range []struct {
		l    []api.Op
		want string
	}{{of(a, b, c), "ACB"}, {of(a, b, c, d), "AC"}, {of(b, c, d), ""}} {
		if got, e := Text(x.l, first); got != x.want || e != api.OK {
			t.Errorf("Text(%v, 0): %q, %d; want %q", x.l, got, e, x.want)
		}
	}
	if got, e := Offset(of(a, b, c), first, b.At); got != 2 || e != api.OK {
		t.Errorf("Offset(A B C, 0, B's place): %d, %d", got, e)
	}
	if got, e := Offset(of(a, b, c), first, nil); got != 0 || e != api.OK {
		t.Errorf("Offset(A B C, 0, the beginning): %d, %d", got, e)
	}
	if got, e := At(of(a, b, c), first, 1); !sameElement(got, elementsOf(c)[0]) || e != api.OK {
		t.Errorf("At(A B C, 0, 1): %v, %d", got, e)
	}
	if got, e := At(of(a, b, c), first, 3); !sameElement(got, api.Element{}) || e != api.ErrArg {
		t.Errorf("At(A B C, 0, 3): %v, %d", got, e)
	}
}

// P15.1: of content and marks, what is seen: inserts that count, homed in the section.
func TestInserts(t *testing.T) {
	j := join(13, 0, opM.At...)
	asksKnown(t, []known{
		{"none", nil, first, ""},
		{"none that is no nil", of(), first, ""},
		{"one", of(opA), first, "A"},
		{"content alone", of(opA, opB, opC, opD, opY), first, "YABCD"},
		{"one not there", of(opA, opC, opD), first, "A"},
		{"the first one not there", of(opB, opC, opD, opY), first, "Y"},
		{"all not there", of(opD), first, ""},
		{"a mark alone, ahead of it", of(opM), first, ""},
		{"a mark alone, behind it", of(opM), opM.Id, ""},
		{"a mark and its join", of(opM, j), first, ""},
		{"a join alone", of(j), first, ""},
		{"marks and joins alone", of(opM, mark(run(6, 6, 1)), mark(run(7, 7, 1)), j), by(6, 6), ""},
		{"ahead of a mark", of(opA, opB, opC, opD, opM, opU, opY), first, "YAB"},
		{"behind a mark", of(opA, opB, opC, opD, opM, opU, opY), opM.Id, "UCD"},
		{"about a mark that is joined", of(opA, opB, opC, opD, opM, opU, opY, j), first, "YABUCD"},
		{"about a mark that is not there", of(opA, opB, opC, opD, opU, opY), first, "YABCD"},
		{"behind a mark, what is ahead not there", of(opC, opD, opM, opU), opM.Id, "UCD"},
		{"behind a mark, one not there", of(opA, opB, opD, opM, opU), opM.Id, "U"},
		{"ahead of a mark, one not there", of(opB, opC, opM, opU, opY), first, "Y"},
		{"between two marks", of(opA, opB, opC, opD, opM, opU, mark(run(1, 0, 3), run(9, 0, 1))), opM.Id, "UC"},
		{"behind two marks", of(opA, opB, opC, opD, opM, opU, mark(run(1, 0, 3), run(9, 0, 1))), by(9, 0), "D"},
		{"two marks side by side", of(opA, opB, opC, opM, opU, mark(run(1, 0, 2), run(6, 5, 1))), by(6, 5), ""},
	})
}

// P15.1: what deletes take away: those that count, in the same section, of inserts that have their places' last stamps, whatever those places are.
func TestDeletes(t *testing.T) {
	dA, dB, dC, dM, dU := without(8, 3, opA.At...), without(9, 3, opB.At...), without(10, 3, opC.At...), without(11, 3, opM.At...), without(12, 3, opU.At...)
	j := join(13, 0, opM.At...)
	c := letter('c', run(3, 0, 1)) // of C's stamp, at another place, ahead of all that is under A
	asksKnown(t, []known{
		{"the only one", of(opA, dA), first, ""},
		{"the first one", of(opA, opB, opC, dA), first, "BC"},
		{"one in the middle", of(opA, opB, opC, dB), first, "AC"},
		{"the last one", of(opA, opB, opC, dC), first, "AB"},
		{"each", of(opA, opB, opC, dA, dB, dC), first, ""},
		{"one twice", of(opA, opB, dA, without(20, 0, opA.At...)), first, "B"},
		{"one three times, all the same", of(opA, opB, dB, without(9, 4, opB.At...), without(9, 5, opB.At...)), first, "A"},
		{"what is not there", of(opA, opB, dC), first, "AB"},
		{"what is not there, alone", of(dA), first, ""},
		{"what does not count", of(opA, opC, dC), first, "A"},
		{"under one, of what is taken away", of(opA, opB, opC, opD, dB, dC), first, "AD"},
		{"ahead of a mark", of(opA, opB, opC, opM, opU, dA, dB, dC, dU), first, ""},
		{"behind a mark", of(opA, opB, opC, opD, opM, opU, dA, dB, dC), opM.Id, "UD"},
		{"ahead of a mark, of what is behind", of(opA, opB, opC, opM, opU, dC, dU), first, "AB"},
		{"behind a mark, of what is ahead", of(opA, opB, opC, opM, opU, dA, dB), opM.Id, "UC"},
		{"behind a mark that is joined", of(opA, opB, opC, opM, opU, dA, dU, j), first, "BC"},
		{"a mark", of(opA, opB, opC, opM, opU, dM), opM.Id, "UC"},
		{"a mark that is joined", of(opA, opB, opC, opM, opU, dM, j), first, "ABUC"},
		{"what a delete made", of(opA, opB, dA, without(14, 1, run(1, 0, 1), run(8, 3, 1))), first, "B"},
		{"what a join is of", of(opA, opB, join(9, 3, opB.At...)), first, "AB"},
		{"a stamp's time alone", of(opA, letter('b', run(2, 1, 1)), opC, without(9, 3, run(2, 3, 1)), without(9, 4, run(2, 1, 1), run(3, 0, 1))), first, "bA"},

		{"at another place, that counts", of(opA, opB, c, dC), first, "AB"},
		{"at another place, that does not count", of(opA, c, dC), first, "cA"},
		{"at another place, that lacks the first one", of(opB, c, dC), first, "c"},
		{"at another place, homed elsewhere", of(opA, opB, opM, c, dC), first, "cAB"},
		{"at another place, homed elsewhere, by itself", of(opM, c, dC), opM.Id, ""},
		{"at another place, homed elsewhere, joined", of(opA, opB, opM, c, dC, j), first, "AB"},
		{"at another place, homed elsewhere, joined, one not there", of(opA, opM, c, dC, j), first, "cA"},
		{"a child's place, by the parent's stamp in it", of(opA, opB, opC, dC), first, "AB"},
		{"one here and one elsewhere of a stamp", of(opA, opB, opM, c, dC, without(14, 0, c.At...)), first, "AB"},
	})
}

// P15.1: the order is that of places, where that of stamps is another one, or the same.
func TestOrderOfPlaces(t *testing.T) {
	asksKnown(t, []known{
		{"side by side, each later one ahead", of(letter('a', run(1, 0, 1)), letter('b', run(2, 1, 1)), letter('c', run(3, 0, 1)), letter('d', run(3, 1, 1))), first, "dcba"},
		{"one under another one", of(opA, opB, opC, opD), first, "ABCD"},
		{"a younger child ahead of an elder one, and of what is under that", of(opA, opB, opC, letter('x', run(1, 0, 1), run(4, 1, 1)), letter('y', run(1, 0, 1), run(4, 2, 1)), letter('z', run(1, 0, 1), run(4, 1, 1), run(9, 0, 1))), first, "AyxzBC"},
		{"the same time, by the replica", of(letter('a', run(4, 0, 1)), letter('b', run(4, 1, 1)), letter('c', run(4, 6, 1)), letter('d', run(4, 7, 1))), first, "dcba"},
		{"a later one deep under the last", of(opA, opB, opY, letter('z', run(1, 0, 2), run(9, 0, 1))), first, "YABz"},
		{"what was taken away between", of(letter('a', run(1, 0, 1)), letter('b', run(2, 1, 1)), letter('c', run(3, 0, 1)), without(4, 0, run(2, 1, 1))), first, "ca"},
	})
	for _, n := range []int{2, 3, 12, 13, 50} {
		fall := alone(n, "i")
		want := slices.Clone(fall)
		slices.Reverse(want)
		tells(t, fall, first, elementsOf(want...), api.OK)
		tells(t, chain(1, n), first, elementsOf(chain(1, n)...), api.OK)
	}
}

// P15.1: code points of one to four bytes, at the ends of each.
func TestCodePoints(t *testing.T) {
	var l []api.Op
	var p []api.Run
	for i, n := range []int{0, 'a', 0x7f, 0x80, 0xe9, 0x7ff, 0x800, 0x20ac, 0xd7ff, 0xe000, 0xfeff, 0xfffd, 0xffff, 0x10000, 0x1f600, 0x10ffff} {
		p = under(p, by(uint32(i+1), 0))
		l = append(l, letter(n, p...))
	}
	want := "\x00a\x7f\xc2\x80\xc3\xa9\xdf\xbf\xe0\xa0\x80\xe2\x82\xac\xed\x9f\xbf\xee\x80\x80\xef\xbb\xbf\xef\xbf\xbd\xef\xbf\xbf\xf0\x90\x80\x80\xf0\x9f\x98\x80\xf4\x8f\xbf\xbf"
	if got, e := Text(l, first); got != want || e != api.OK {
		t.Errorf("Text: %x, %d; want %x", got, e, want)
	}
	tells(t, l, first, elementsOf(l...), api.OK)
	for i := range l {
		if got, e := Text(append(slices.Clone(l), without(99, 1, l[i].At...)), first); got != textOf(elementsOf(slices.Concat(l[:i], l[i+1:])...)) || e != api.OK {
			t.Errorf("Text without %x: %x, %d", l[i].Point, got, e)
		}
		one := letter(l[i].Point, run(1, 0, 1))
		if got, e := Text(of(one), first); got != string(rune(one.Point)) || e != api.OK {
			t.Errorf("Text of %x alone: %x, %d", one.Point, got, e)
		}
	}
}

// P15.1: indices from -1 to one more than there are, of none seen, of one, of some, in each section.
func TestIndices(t *testing.T) {
	dA := without(8, 3, opA.At...)
	l := of(opA, opB, opC, opM, opU, opY, dA)
	for _, c := range []struct {
		what string
		l    []api.Op
		s    api.Id
		k    int
		want api.Op
		e    api.Errno
	}{
		{"the one ahead of the first", l, first, -1, api.Op{}, api.ErrArg},
		{"the first", l, first, 0, opY, api.OK},
		{"the last", l, first, 1, opB, api.OK},
		{"as many as there are", l, first, 2, api.Op{}, api.ErrArg},
		{"one more", l, first, 3, api.Op{}, api.ErrArg},
		{"very many", l, first, math.MaxInt, api.Op{}, api.ErrArg},
		{"the least", l, first, math.MinInt, api.Op{}, api.ErrArg},
		{"the first behind a mark", l, opM.Id, 0, opU, api.OK},
		{"the last behind a mark", l, opM.Id, 1, opC, api.OK},
		{"as many as there are behind a mark", l, opM.Id, 2, api.Op{}, api.ErrArg},
		{"the first of none", nil, first, 0, api.Op{}, api.ErrArg},
		{"the one ahead of none", nil, first, -1, api.Op{}, api.ErrArg},
		{"the first of what is all taken away", of(opA, dA), first, 0, api.Op{}, api.ErrArg},
		{"the first of a mark alone", of(opM), opM.Id, 0, api.Op{}, api.ErrArg},
		{"the first of what does not count", of(opB), first, 0, api.Op{}, api.ErrArg},
		{"the first of one", of(opA), first, 0, opA, api.OK},
		{"behind one", of(opA), first, 1, api.Op{}, api.ErrArg},
		{"the first of no section", l, by(9, 9), 0, api.Op{}, api.ErrSection},
		{"the one ahead of no section's first", l, by(9, 9), -1, api.Op{}, api.ErrSection},
		{"the first of a bag that may not be", of(opA, opA), first, 0, api.Op{}, api.ErrBad},
		{"none of a bag that may not be", of(opA, opA), by(9, 9), -1, api.Op{}, api.ErrBad},
	} {
		if got, e := At(c.l, c.s, c.k); !sameElement(got, elementsOf(c.want)[0]) || e != c.e {
			t.Errorf("%s: At(.., %v, %d): %v, %d; want %v, %d", c.what, c.s, c.k, got, e, c.want, c.e)
		}
	}
}

// P15.1: offsets of the beginning, of what is seen, right ahead of it and right behind it, of what is taken away, does not count, is not there, is homed elsewhere.
func TestOffsets(t *testing.T) {
	dB := without(8, 3, opB.At...)
	l := of(opA, opB, opC, opD, opU, opY, dB)              // YACD: U lacks M
	sectioned := of(opA, opB, opC, opD, opM, opU, opY, dB) // YA, UCD
	for _, c := range []struct {
		what string
		l    []api.Op
		s    api.Id
		p    []api.Run
		want int
		e    api.Errno
	}{
		{"the beginning", l, first, nil, 0, api.OK},
		{"the beginning that is no nil", l, first, at(), 0, api.OK},
		{"the first one", l, first, opY.At, 0, api.OK},
		{"right ahead of the first one", l, first, at(run(7, 3, 1)), 0, api.OK},
		{"the youngest of all", l, first, at(run(1<<30, 7, 1)), 0, api.OK},
		{"right behind the first one", l, first, at(run(7, 2, 1), run(1<<30, 7, 1)), 1, api.OK},
		{"behind all under the first one", l, first, at(run(7, 1, 1)), 1, api.OK},
		{"the second one", l, first, opA.At, 1, api.OK},
		{"right behind the second one", l, first, at(run(1, 0, 1), run(1<<30, 7, 1)), 2, api.OK},
		{"what is taken away", l, first, opB.At, 2, api.OK},
		{"right behind that", l, first, at(run(1, 0, 2), run(1<<30, 7, 1)), 2, api.OK},
		{"what does not count", l, first, opU.At, 2, api.OK},
		{"what is not there", l, first, opM.At, 2, api.OK},
		{"the third one", l, first, opC.At, 2, api.OK},
		{"right ahead of the last one", l, first, at(run(1, 0, 3), run(4, 1, 1)), 3, api.OK},
		{"the last one", l, first, opD.At, 3, api.OK},
		{"right behind the last one", l, first, at(run(1, 0, 5)), 4, api.OK},
		{"right ahead of the third one", l, first, at(run(1, 0, 2), run(3, 1, 1)), 2, api.OK},
		{"the third one, written in another way", l, first, at(run(1, 0, 2), run(3, 0, 1)), 0, api.ErrBad},
		{"the last of all", l, first, at(run(1, 0, 4096)), 4, api.OK},
		{"one of no runs that may be", l, first, at(api.Run{}), 0, api.ErrBad},
		{"of none", nil, first, at(run(1, 0, 1)), 0, api.OK},
		{"the beginning of none", nil, first, nil, 0, api.OK},
		{"one that may not be, of none", nil, first, at(run(1, 8, 1)), 0, api.ErrBad},
		{"of what is all taken away", of(opA, without(9, 0, opA.At...)), first, opA.At, 0, api.OK},

		{"homed behind, of the section ahead", sectioned, first, opC.At, 2, api.OK},
		{"the mark's, of the section ahead", sectioned, first, opM.At, 2, api.OK},
		{"homed ahead, of the section behind", sectioned, opM.Id, opA.At, 0, api.OK},
		{"the beginning, of the section behind", sectioned, opM.Id, nil, 0, api.OK},
		{"the mark's, of the section behind", sectioned, opM.Id, opM.At, 0, api.OK},
		{"right behind the mark", sectioned, opM.Id, at(run(1, 0, 2), run(5, 1, 1), run(7, 0, 1)), 0, api.OK},
		{"the first one behind the mark", sectioned, opM.Id, opU.At, 0, api.OK},
		{"the second one behind the mark", sectioned, opM.Id, opC.At, 1, api.OK},
		{"behind all of the section behind", sectioned, opM.Id, at(run(1, 0, 5)), 3, api.OK},

		{"no section's", l, opM.Id, opA.At, 0, api.ErrSection},
		{"no section's, that may not be", l, opM.Id, at(run(1, 8, 1)), 0, api.ErrSection},
		{"of a bag that may not be", of(opA, opA), first, opA.At, 0, api.ErrBad},
		{"no section's, of a bag that may not be", of(opA, opA), opM.Id, opA.At, 0, api.ErrBad},
	} {
		if got, e := Offset(c.l, c.s, c.p); got != c.want || e != c.e {
			t.Errorf("%s: Offset(.., %v, %v): %d, %d; want %d, %d", c.what, c.s, c.p, got, e, c.want, c.e)
		}
	}
	for _, p := range badPlaces() {
		for _, s := range ids(first, opM.Id) {
			if got, e := Offset(sectioned, s, p); got != 0 || e != api.ErrBad {
				t.Errorf("Offset(.., %v, %v): %d, %d; want ErrBad", s, p, got, e)
			}
			if got, e := Offset(of(opM), s, p); got != 0 || e != api.ErrBad {
				t.Errorf("Offset of none, %v, %v: %d, %d; want ErrBad", s, p, got, e)
			}
		}
		if got, e := Offset(sectioned, by(3, 3), p); got != 0 || e != api.ErrSection {
			t.Errorf("Offset(.., no section, %v): %d, %d; want ErrSection", p, got, e)
		}
	}
}

// P15.1, P1: stamps that are no sections, in bags that may be: of marks that are joined, of content, of nothing there, such as may not be.
func TestRefusesSections(t *testing.T) {
	n := mark(run(2, 3, 1))
	l := of(opA, n, opM, opU, without(7, 0, opA.At...), join(8, 0, opM.At...), without(9, 0, n.At...), join(9, 1, run(3, 3, 1)))
	for what, s := range map[string]api.Id{
		"a mark that is joined": opM.Id, "an insert": opA.Id, "an insert under a mark": opU.Id, "a delete": by(7, 0), "a delete of a mark": by(9, 0), "a join": by(8, 0), "a join of nothing": by(9, 1),
		"what is joined, and not there": by(3, 3), "what is stood on, and not there": by(2, 0), "nothing there": by(4, 0), "a mark's time, another replica": by(2, 2), "a mark's replica, another time": by(3, 3),
		"a mark's replica and eight": by(2, 11), "no time": by(0, 1), "no time, the last replica": by(0, 255), "too late a time": by(1<<30+1, 0), "a mark's time and 2^31": by(1<<31+2, 3), "the greatest": by(math.MaxUint32, 255),
	} {
		t.Run(what, func(t *testing.T) {
			for _, l := range [][]api.Op{l, nil, of(opA, opB)} {
				tells(t, l, s, nil, api.ErrSection)
				offsets(t, l, wordsOf(l), s, append(badPlaces(), nil, opA.At))
				if _, e := Offset(l, s, opA.At); e != api.ErrSection {
					t.Errorf("Offset(%v, %v): %d", l, s, e)
				}
			}
		})
	}
	tells(t, l, n.Id, nil, api.OK)
	asksAbout(t, l)
}

// bad is operations that may not be.
func bad() []api.Op {
	return []api.Op{
		{}, {Kind: 1, Id: by(9, 0)}, {Kind: 3, Id: by(9, 0), At: at()}, {Kind: 255, Id: by(math.MaxUint32, 255), Point: math.MinInt},
		{Kind: 0, Id: by(9, 0), At: at(run(9, 0, 1))}, {Kind: 5, Id: by(9, 0), At: at(run(9, 0, 1))}, {Kind: 129, Id: by(9, 0), At: at(run(9, 0, 1)), Point: 97},
		{Kind: 1, Id: by(9, 0), At: at(run(8, 0, 1)), Point: 97}, {Kind: 2, Id: by(9, 0), At: at(run(9, 0, 1)), Point: 1}, {Kind: 3, Id: by(9, 0), At: at(run(1, 0, 1)), Point: 97},
		letter(97, run(0, 0, 1)), letter(97, run(9, 8, 1)), letter(97, run(1<<30+1, 0, 1)), letter(97, run(9, 0, 0)), letter(97, run(9, 0, math.MaxInt)), letter(97, run(1, 0, 4097)), letter(97, run(8, 0, 1), run(9, 0, 1)),
		letter(0xd800, run(9, 0, 1)), letter(-1, run(9, 0, 1)), letter(0x110000, run(9, 0, 1)), letter(1<<32+97, run(9, 0, 1)), without(9, 0, run(9, 0, 1)), join(9, 0, run(9, 0, 1)), without(9, 7, run(1, 0, 9)), without(9, 8, run(1, 0, 1)),
	}
}

// refusesAll asks whether all calls refuse a bag, whatever stamp, index or place is told with it, and answer nothing beside the error.
func refusesAll(t *testing.T, what string, l []api.Op) {
	t.Helper()
	w := wordsOf(l)
	if !w.bad {
		t.Fatalf("%s may be: %v", what, brief(l))
	}
	for _, s := range append(stampsAbout(l), by(9, 0), by(5, 1)) {
		tells(t, l, s, nil, api.ErrBad)
		offsets(t, l, w, s, [][]api.Run{nil, opA.At, at(run(1, 8, 1))})
	}
}

// P1, P15.1: bags that may not be are refused by each of the four calls, with stamps that are no sections, too, and with indices and places that may not be.
func TestAllRefuseWrongs(t *testing.T) {
	d, j := without(8, 0, opA.At...), join(9, 1, opM.At...)
	back := grown(40, 6, "imdj")
	slices.Reverse(back)
	for what, l := range map[string][]api.Op{
		"two whose stamps fall":        of(opB, opA),
		"two that fall by the replica": of(insert(run(2, 1, 1)), insert(run(2, 0, 1))),
		"an insert twice":              of(opA, opA),
		"a delete ahead of its insert": of(d, opA),
		"a mark twice":                 of(opA, opM, opM),
		"an insert and a mark in one":  of(opA, mark(run(1, 0, 1)), opB),
		"one that falls at the end":    of(opA, opB, opM, d, j, opC),
		"one that falls at the front":  of(opD, opA, opB, opC, opM),
		"all in another order":         back,
		"very many":                    alone(1<<14, "imdj"),
		"very many of nothing":         make([]api.Op, 1<<14),
		"very many, all the same":      slices.Repeat(of(opA), 1<<14),
		"good ones, and a zero one":    of(opA, opB, opM, api.Op{}),
	} {
		refusesAll(t, what, l)
	}
	for _, o := range bad() {
		if op.Check(o) != api.ErrBad {
			t.Fatalf("%v may be", o)
		}
		refusesAll(t, "one that may not be", of(o))
		refusesAll(t, "one that may not be ahead", of(o, opA, opM, opY, d, j))
		refusesAll(t, "one that may not be in the middle", of(opA, opM, o, without(10, 0, opA.At...)))
		refusesAll(t, "one that may not be at the end", of(opA, opM, opY, d, o))
	}
}

// several is operations of which all bags are asked: a chain, two marks in it, what stands under these, deletes, at another place too, a join of each mark.
func several() []api.Op {
	n := mark(run(1, 0, 1), run(3, 1, 1))
	return byStamps(opA, opB, n, insert(run(1, 0, 1), run(3, 1, 1), run(4, 0, 1)), opC, opM, opU, insert(run(6, 1, 1)),
		without(8, 0, opB.At...), without(8, 1, opC.At...), without(9, 0, run(1, 0, 2), run(6, 1, 1)), join(10, 0, opM.At...), join(10, 1, n.At...))
}

// bagsOf is all bags of some operations.
func bagsOf(l []api.Op) [][]api.Op {
	var out [][]api.Op
	for which := range 1 << len(l) {
		var some []api.Op
		for i, o := range l {
			if which>>i&1 == 1 {
				some = append(some, o)
			}
		}
		out = append(out, some)
	}
	return out
}

// P15.1: all bags of few operations.
func TestTellsAllOfFew(t *testing.T) {
	whole := several()
	stamps := ids(first, opM.Id, by(3, 1), opA.Id, by(8, 0))
	places := [][]api.Run{nil, opA.At, opU.At, at(run(1, 0, 4)), at(run(1, 8, 1))}
	for _, l := range bagsOf(whole) {
		asks(t, l, stamps, places)
	}
}

// P15.1: bags of many lengths and kinds, with holes.
func TestTellsAll(t *testing.T) {
	seen, away := 0, 0
	for _, l := range some() {
		asksAbout(t, l)
		w := wordsOf(l)
		content := countsInWords(l, w.secs)
		n := 0
		for _, s := range w.secs {
			n += len(w.seen[s.id])
		}
		seen += n
		away += len(slices.DeleteFunc(content, func(c counted) bool { return c.op.Kind == 3 })) - n
	}
	if seen < 1000 || away < 100 {
		t.Errorf("%d are seen, %d taken away: too few to tell", seen, away)
	}
}

// P15.1: bags in which a stamp may be another thing's than the element that a place tells.
func TestMixedBags(t *testing.T) {
	d := &dice{1}
	other := 0
	for range 400 {
		l := mixed(d)
		asksAbout(t, l)
		w := wordsOf(l)
		for _, o := range l {
			for _, s := range w.secs {
				if o.Kind == 3 && slices.ContainsFunc(w.seen[s.id], func(c counted) bool { return c.op.Id == endOf(o.At) }) {
					other++
				}
			}
		}
	}
	if other < 50 {
		t.Errorf("%d deletes take nothing away of what is there: too few to tell", other)
	}
}

// P15.1: bags of 1023 and of 1024 operations, and of more, which may not be.
func TestComesToMaxOps(t *testing.T) {
	whole := chain(3, 1025)
	tells(t, whole[:1024], first, elementsOf(whole[:1024]...), api.OK)
	for _, i := range []int{0, 1, 511, 1023, 1024} {
		l := slices.Concat(whole[:i], whole[i+1:])
		tells(t, l, first, elementsOf(whole[:i]...), api.OK)
		tells(t, l, by(3, 0), nil, api.ErrSection)
		offsets(t, l, wordsOf(l), first, [][]api.Run{nil, whole[0].At, whole[i/2].At, whole[i].At, at(run(3, 0, 2000)), at(run(4, 0, 1))})
	}
	refusesAll(t, "a chain of 1025", whole)
	var wide []api.Op
	for i := range 1024 {
		wide = append(wide, letter(0x10ffff, run(1, 0, i+1)))
	}
	if got, e := Text(wide, first); len(got) != 4096 || got != textOf(elementsOf(wide...)) || e != api.OK {
		t.Errorf("Text of 1024 code points of four bytes: %d bytes, %d", len(got), e)
	}
	for _, kinds := range []string{"i", "m", "d", "j", "id", "mj", "im", "imdj", "iiiiid"} {
		l := alone(1024, kinds)
		asks(t, l, ids(first, by(10, 1), by(12, 1), by(2054, 1), by(2056, 1), by(2058, 1)), [][]api.Run{nil, at(run(10, 1, 1)), at(run(1033, 0, 1)), at(run(2056, 1, 1)), at(run(1<<30, 7, 1))})
		asks(t, l[:1023], ids(first, by(12, 1), by(2056, 1)), [][]api.Run{at(run(1032, 1, 1))})
		refusesAll(t, "more than may be", alone(1025, kinds))
		refusesAll(t, "twice as many", alone(2048, kinds))
	}
	for _, kinds := range []string{"iiiiiiiiiiimdj", "iiiiid", "i"} {
		l := grown(1024, 3, kinds)
		asks(t, l, stampsAbout(l)[:20], placesAbout(sample(l)))
		refusesAll(t, "one more than may be", grown(1025, 3, kinds))
	}
}

// P15.1: places of the most stamps and of the most runs, marks deep in them, and what stands under these.
func TestLongPlaces(t *testing.T) {
	for _, from := range []int{4095, 4094, 4060, 3090} {
		m := mark(run(1, 0, from))
		l := of(m)
		for n := from + 1; n <= 4096; n++ {
			l = append(l, insert(run(1, 0, n)))
		}
		last, d := len(l)-1, without(5000, 1, run(1, 0, 4096))
		places := [][]api.Run{nil, m.At, l[last].At, at(run(1, 0, 4097)), at(run(1, 0, from), run(5001, 0, 1)), at(run(1, 0, 4095), run(4096, 1, 1)), at(run(1, 0, 4095), run(4095, 1, 1))}
		tells(t, l, m.Id, elementsOf(l[1:]...), api.OK)
		with := append(slices.Clone(l), d)
		tells(t, with, m.Id, elementsOf(l[1:last]...), api.OK)
		tells(t, with, first, nil, api.OK)
		tells(t, with[1:], first, nil, api.OK)
		// The words take long where very many stand deep.
		if from >= 4060 {
			offsets(t, l, wordsOf(l), m.Id, places)
			offsets(t, with, wordsOf(with), m.Id, places)
		}
	}
	var whole []api.Op
	for i := range 64 {
		whole = append(whole, insert(manyRuns(i+1)...))
	}
	last := whole[63]
	whole = append(whole, insert(under(last.At, by(65, 1))...), without(72, 0, last.At...))
	want := slices.Delete(elementsOf(whole[:65]...), 63, 64)
	tells(t, whole, first, want, api.OK)
	w := wordsOf(whole)
	offsets(t, whole, w, first, [][]api.Run{last.At, manyRuns(65), whole[64].At, under(whole[64].At, by(66, 1)), under(whole[64].At, by(66, 0))})
	for i := range 63 {
		with := slices.Clone(whole)
		with[i] = mark(whole[i].At...)
		tells(t, with[i:], with[i].Id, want[i+1:], api.OK)
		tells(t, with, first, want[:i], api.OK)
		offsets(t, with, wordsOf(with), with[i].Id, [][]api.Run{whole[i].At, whole[(i+64)/2].At, last.At})
	}
}

// shown is what a bag shows of a section, by all calls.
type shown struct {
	seen    []api.Element
	text    string
	offsets []int
}

// shows is what a bag shows of a section that it has.
func shows(t *testing.T, l []api.Op, s api.Id, places [][]api.Run) shown {
	t.Helper()
	seen, e := Elements(l, s)
	text, f := Text(l, s)
	if e != api.OK || f != api.OK {
		t.Fatalf("Elements and Text of %v, in %v: %d, %d", brief(l), s, e, f)
	}
	x := shown{seen: seen, text: text}
	for _, p := range places {
		n, e := Offset(l, s, p)
		if e != api.OK {
			t.Fatalf("Offset(%v, in %v, %v): %d", brief(l), s, p, e)
		}
		x.offsets = append(x.offsets, n)
	}
	for k := range seen {
		if y, e := At(l, s, k); !sameElement(y, seen[k]) || e != api.OK {
			t.Fatalf("At(%v, in %v, %d): %v, %d; seen is %v", brief(l), s, k, y, e, seen[k])
		}
	}
	return x
}

// is whether two bags show the same of a section.
func (x shown) is(y shown) bool {
	return same(x.seen, y.seen) && x.text == y.text && slices.Equal(x.offsets, y.offsets)
}

// sectionsOf is the sections of a bag that may be.
func sectionsOf(t *testing.T, l []api.Op) []api.Id {
	t.Helper()
	secs, e := home.All(l)
	if e != api.OK {
		t.Fatalf("All of %v: %d", brief(l), e)
	}
	return secs
}

// versioned is a section, and its version, as a text.
type versioned struct {
	s       api.Id
	version string
}

// versionOf is the version of a section that a bag has.
func versionOf(t *testing.T, l []api.Op, s api.Id) versioned {
	t.Helper()
	c, e := cover.Version(l, s)
	if e != api.OK {
		t.Fatalf("Version(%v, of %v): %d", brief(l), s, e)
	}
	var b []byte
	for _, x := range c {
		b = append(b, x.R)
		for _, y := range x.Spans {
			b = append(b, byte(y.From), byte(y.From>>8), byte(y.To), byte(y.To>>8))
		}
		b = append(b, 255)
	}
	return versioned{s, string(b)}
}

// P15.3, V2: bags that are parts of one show the same of a section, if they have the same version of it, whatever else they have.
func TestVersionTellsAll(t *testing.T) {
	places := [][]api.Run{nil, opA.At, opM.At, opC.At, at(run(6, 1, 1))}
	var all [][][]api.Op
	all = append(all, bagsOf(several()))
	for seed := range uint32(60) {
		whole := grown(30, seed, []string{"iiiiidm", "iiidmj", "iiiiiid"}[seed%3])
		bags := [][]api.Op{whole}
		for turn := range uint32(60) {
			bags = append(bags, holed(whole, 2+int(turn%11), seed*100+turn))
		}
		all = append(all, bags)
	}
	unlike := 0
	for _, bags := range all {
		type one struct {
			l []api.Op
			x shown
		}
		by := map[versioned]one{}
		for _, l := range bags {
			for _, s := range sectionsOf(t, l) {
				v, x := versionOf(t, l, s), shows(t, l, s, places)
				was, there := by[v]
				if !there {
					by[v] = one{l, x}
					continue
				}
				if !was.x.is(x) {
					t.Fatalf("%v and %v have one version of %v, and show %v, %v", brief(was.l), brief(l), s, was.x, x)
				}
				if v.version != "" && len(x.seen) > 0 && !sameOps(was.l, l) {
					unlike++
				}
			}
		}
	}
	if unlike < 5000 {
		t.Errorf("%d unlike bags of one version: too few to tell", unlike)
	}
}

// P15.3: bags of one version of a section, unlike elsewhere: what does not count, what other sections hold, how these are cut.
func TestOneVersion(t *testing.T) {
	dA, dD := without(8, 3, opA.At...), without(9, 3, opD.At...)
	n := mark(run(1, 0, 3), run(9, 0, 1))
	for what, c := range map[string]struct{ a, b []api.Op }{
		"what does not count":      {of(opC, opM, opU), of(opC, opM, opU, dD)},
		"what lacks one":           {of(opC, opM, opU), of(opC, opM, opU, letter('q', run(1, 0, 3), run(7, 0, 2)))},
		"the section ahead":        {of(opC, opM, opU), of(opA, opB, opC, opM, opU, opY)},
		"deletes in that":          {of(opC, opM, opU), of(opA, opB, opC, opM, opU, dA)},
		"the section behind":       {of(opC, opM, opU, n), of(opC, opD, opM, opU, n)},
		"deletes in that one":      {of(opC, opM, opU, n), of(opC, opD, opM, opU, n, dD)},
		"where the section ends":   {of(opC, opM, opU), of(opC, opM, opU, n)},
		"a mark that is joined":    {of(opC, opM, opU), of(opC, opM, opU, n, join(10, 0, n.At...))},
		"how the one ahead is cut": {of(opA, opC, opM, opU), of(opA, opC, opM, opU, mark(run(1, 0, 1), run(9, 0, 1)))},
	} {
		a, b := byStamps(c.a...), byStamps(c.b...)
		if !mayBe(a) || !mayBe(b) {
			t.Fatalf("%s: %v or %v may not be", what, a, b)
		}
		if x, y := versionOf(t, a, opM.Id), versionOf(t, b, opM.Id); x != y {
			t.Fatalf("%s: two versions", what)
		}
		places := [][]api.Run{nil, opU.At, opC.At, opD.At}
		x, y := shows(t, a, opM.Id, places), shows(t, b, opM.Id, places)
		if !x.is(y) || x.text != "UC" {
			t.Errorf("%s: %v, %v", what, x, y)
		}
	}
}

// P15.3: all that is seen, in all sections, one behind the other, stands in the order of places, each once.
func TestSeenInOrder(t *testing.T) {
	many := 0
	bags := some()
	d := &dice{7}
	for range 300 {
		bags = append(bags, mixed(d))
	}
	for _, l := range bags {
		var all []api.Element
		for _, s := range sectionsOf(t, l) {
			seen, e := Elements(l, s)
			if e != api.OK {
				t.Fatalf("Elements(%v, in %v): %d", brief(l), s, e)
			}
			all = append(all, seen...)
		}
		for i, x := range all {
			if i > 0 && !ahead(stampsOf(all[i-1].At), stampsOf(x.At)) {
				t.Fatalf("%v, then %v, seen of %v", all[i-1], x, brief(l))
			}
			many++
		}
	}
	if many < 1500 {
		t.Errorf("%d are seen: too few to tell", many)
	}
}

// joinsSame asks whether two parts of one bag, joined, show the same, either way, and what their union does.
func joinsSame(t *testing.T, whole, a, b []api.Op) {
	t.Helper()
	one, e := bag.Join(a, b)
	two, f := bag.Join(b, a)
	if e != api.OK || f != api.OK {
		t.Fatalf("Join of %v and %v: %d, %d", brief(a), brief(b), e, f)
	}
	var both []api.Op
	for _, o := range whole {
		is := func(x api.Op) bool { return x.Id == o.Id }
		if slices.ContainsFunc(a, is) || slices.ContainsFunc(b, is) {
			both = append(both, o)
		}
	}
	var places [][]api.Run
	for _, o := range both {
		places = append(places, o.At)
	}
	w := wordsOf(both)
	for _, s := range sectionsOf(t, both) {
		x, y := shows(t, one, s, places), shows(t, two, s, places)
		if !x.is(y) || !same(x.seen, w.elements(s)) {
			t.Fatalf("%v and %v, joined either way, show %v, %v of %v; want %v", brief(a), brief(b), x, y, s, few(w.elements(s)))
		}
	}
}

// P15.3: two bags joined, either way, show the same.
func TestJoinedShowTheSame(t *testing.T) {
	for seed := range uint32(300) {
		whole := grown(int(2+seed%29), seed, []string{"iiiiidm", "iiidmj", "imdj", "id"}[seed%4])
		for turn := range uint32(4) {
			joinsSame(t, whole, holed(whole, 2+int(turn), seed+turn), holed(whole, 2, seed+turn+1000))
		}
		joinsSame(t, whole, whole, nil)
		joinsSame(t, whole, whole[len(whole)/2:], whole[:len(whole)/2])
	}
	for _, which := range []int{0, 1, 3, 6} {
		l := byStamps(opA, opB, opM, opU, opC, without(8, 0, opB.At...), join(9, 0, opM.At...))
		for _, a := range bagsOf(l) {
			joinsSame(t, l, a, slices.Concat(l[:which], l[which+1:]))
		}
	}
}

// memory is a bag's, with what lies around it: other operations, and, around each place, other runs.
type memory struct {
	ops    []api.Op
	places [][]api.Run
}

// lay is a bag as it is, in memory where others are around.
func lay(l []api.Op) (memory, []api.Op) {
	m := memory{ops: slices.Concat(of(insert(run(1, 0, 1))), l, of(insert(run(1<<30, 6, 1)), insert(run(1<<30, 7, 1))))}
	for i, o := range l {
		p := slices.Concat(at(run(1, 0, 1)), o.At, at(run(9, 9, 9), run(8, 8, 8)))
		m.places = append(m.places, p)
		m.ops[1+i].At = p[1 : 1+len(o.At)]
	}
	return m, m.ops[1 : 1+len(l)]
}

// copied is a memory as it is now.
func (m memory) copied() memory {
	was := memory{ops: slices.Clone(m.ops)}
	for _, p := range m.places {
		was.places = append(was.places, slices.Clone(p))
	}
	return was
}

// same is whether nothing was changed: no number, and no place is another memory's.
func (m memory) same(was memory) bool {
	for i, p := range m.places {
		in := m.ops[1+i].At
		if !slices.Equal(p, was.places[i]) || len(in) > 0 && &in[0] != &p[1] {
			return false
		}
	}
	return sameOps(m.ops, was.ops)
}

// spoil writes over all that a bag and the places in it have room for.
func (m memory) spoil() {
	for _, p := range m.places {
		spoilPlace(p)
	}
	for i := range m.ops {
		m.ops[i] = insert(run(78, 6, 1))
	}
}

// spoilPlace writes over all that a place has room for.
func spoilPlace(p []api.Run) {
	p = p[:cap(p)]
	for i := range p {
		p[i] = run(77, 7, 77)
	}
}

// twins is elements in new memory.
func twins(l []api.Element) []api.Element {
	var out []api.Element
	for _, x := range l {
		x.At = slices.Clone(x.At)
		out = append(out, x)
	}
	return out
}

// P15.2: bags and places are only read, by each call, such as may not be too.
func TestOnlyReads(t *testing.T) {
	bags := some()
	for _, o := range bad() {
		bags = append(bags, of(opA, opM, o, without(1<<29, 0, opA.At...)))
	}
	for _, l := range bags {
		m, in := lay(l)
		was := m.copied()
		for _, s := range stampsAbout(l) {
			Elements(in, s)
			Text(in, s)
			At(in, s, 0)
			p := slices.Concat(at(run(5, 5, 5)), opU.At, at(run(6, 6, 6)))
			Offset(in, s, p[1:1+len(opU.At)])
			if !slices.Equal(p, slices.Concat(at(run(5, 5, 5)), opU.At, at(run(6, 6, 6)))) {
				t.Fatalf("a place is turned, asked of %v, %v", brief(l), s)
			}
			for _, o := range sample(in) {
				Offset(in, s, o.At)
			}
			if !m.same(was) {
				t.Fatalf("%v is turned, asked of %v", brief(l), s)
			}
		}
	}
}

// P15.2: elements that are answered are new memory, of the bag's, of another answer's and of each other's: they stay as they are when one of these is changed.
func TestElementsAreNewMemory(t *testing.T) {
	for _, l := range some() {
		for _, s := range sectionsOf(t, l) {
			m, in := lay(l)
			was := m.copied()
			one, _ := Elements(in, s)
			two, _ := Elements(in, s)
			text, _ := Text(in, s)
			want := twins(one)
			for i := range one {
				if !same(one[i:], want[i:]) {
					t.Fatalf("the places of Elements(%v, in %v) share memory", brief(l), s)
				}
				spoilPlace(one[i].At)
			}
			one = one[:cap(one)]
			for i := range one {
				one[i] = api.Element{Id: by(77, 7)}
			}
			if !m.same(was) || !same(two, want) {
				t.Fatalf("Elements(%v, in %v) shares memory", brief(l), s)
			}
			m.spoil()
			if !same(two, want) || text != textOf(want) {
				t.Fatalf("Elements or Text(%v, in %v) changes with what was handed in", brief(l), s)
			}
		}
	}
}

// P15.2: so is the element that At answers.
func TestAnElementIsNewMemory(t *testing.T) {
	for _, l := range some() {
		for _, s := range sectionsOf(t, l) {
			m, in := lay(l)
			was := m.copied()
			want, _ := Elements(l, s)
			want = twins(want)
			for k, x := range want {
				one, _ := At(in, s, k)
				two, _ := At(in, s, k)
				spoilPlace(one.At)
				if !m.same(was) || !sameElement(two, x) {
					t.Fatalf("At(%v, in %v, %d) shares memory", brief(l), s, k)
				}
			}
			var all []api.Element
			for k := range want {
				x, _ := At(in, s, k)
				all = append(all, x)
			}
			m.spoil()
			if !same(all, want) {
				t.Fatalf("At(%v, in %v, ..) changes with what was handed in", brief(l), s)
			}
		}
	}
}

// P1, P2: nothing is kept from call to call: not what was taken away in another bag, not its elements, not an error.
func TestKeepsNothing(t *testing.T) {
	l := some()
	for i := range l {
		left := l[len(l)-1-i]
		asksAbout(t, left[:min(4, len(left))])
	}
	dA := without(8, 3, opA.At...)
	for range 3 {
		tells(t, of(opA, opB, opC, opM), opM.Id, elementsOf(opC), api.OK)
		tells(t, of(opA, opB, dA), first, elementsOf(opB), api.OK)
		tells(t, of(opA, opB), first, elementsOf(opA, opB), api.OK)
		tells(t, of(opA, opC), opM.Id, nil, api.ErrSection)
		tells(t, of(opA, opC), first, elementsOf(opA), api.OK)
		refusesAll(t, "one twice", of(opA, opA))
		tells(t, of(opC), first, nil, api.OK)
	}
}

// bagFrom is a bag of what bytes tell: each four a kind, a stamp, and an element to stand under or to take away; some are not put in, so that others wait for them.
func bagFrom(b []byte) []api.Op {
	var l []api.Op
	places := [][]api.Run{nil}
	id := by(0, 7)
	for ; len(b) >= 4; b = b[4:] {
		if r := b[1] % 8; r > id.R && b[1] >= 128 {
			id.R = r
		} else {
			id = by(id.T+1+uint32(b[1]>>5), r)
		}
		p := places[int(b[2])%len(places)]
		o := api.Op{Kind: b[0] % 6, Id: id, At: p}
		switch {
		case o.Kind < 3:
			o.At = under(p, id)
			places = append(places, o.At)
		case endOf(p).T == 0:
			o.At = at(run(uint32(b[3]), b[2]%8, 1+int(b[3]%3)))
		}
		if o.Kind == 1 {
			o.Point = int(b[3]) * 257
		}
		if b[0] < 192 {
			l = append(l, o)
		}
	}
	return l
}

// P1, P15.1 to P15.3: whatever bag, stamp, index and place, such as may not be too.
func FuzzElements(f *testing.F) {
	f.Add([]byte{1, 0, 0, 97, 1, 0, 1, 98, 2, 1, 2, 0, 1, 0, 2, 99, 3, 2, 3, 0}, uint32(3), uint8(1), 0)
	f.Add([]byte{1, 0, 0, 97, 193, 0, 1, 98, 1, 0, 2, 99, 2, 1, 2, 0, 4, 2, 4, 0, 3, 0, 3, 0}, uint32(0), uint8(0), -1)
	f.Add([]byte{2, 0, 0, 0, 2, 1, 1, 0, 1, 1, 2, 0, 4, 0, 1, 0, 3, 129, 3, 0}, uint32(2), uint8(1), 1)
	f.Add([]byte{5, 0, 0, 0}, uint32(1<<30), uint8(7), 4096)
	f.Add([]byte{1, 0, 0, 65, 3, 64, 0, 1, 1, 1, 0, 66, 3, 1, 1, 0, 3, 2, 1, 0}, uint32(1), uint8(0), 2)
	f.Fuzz(func(t *testing.T, b []byte, time uint32, r uint8, k int) {
		// Long ones are asked elsewhere: here many are, fast.
		l := bagFrom(b[:min(len(b), 160)])
		m, in := lay(l)
		was := m.copied()
		asks(t, in, append(stampsAbout(l), by(time, r)), append(placesAbout(l), at(run(time, r, k)), at(run(1, 0, 1), run(time, r, k))))
		w := wordsOf(l)
		if seen := w.elements(by(time, r)); k >= 0 && k < len(seen) {
			if x, e := At(in, by(time, r), k); !sameElement(x, seen[k]) || e != api.OK {
				t.Fatalf("At(%v, in %v, %d): %v, %d", brief(l), by(time, r), k, x, e)
			}
		}
		if !m.same(was) {
			t.Fatalf("%v is turned", brief(l))
		}
		if mayBe(l) {
			joinsSame(t, l, holed(l, 2, time), holed(l, 2, time+1))
		}
	})
}
