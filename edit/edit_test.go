package edit

import (
	"math"
	"slices"
	"strings"
	"testing"
	"unicode/utf8"

	"octavo/api"
	"octavo/bag"
	"octavo/cover"
	"octavo/home"
	"octavo/op"
	"octavo/view"
)

// run is so many stamps by r from t on.
func run(t uint32, r uint8, many int) api.Run {
	return api.Run{T: t, R: r, Many: many}
}

// at is a place of some runs.
func at(l ...api.Run) []api.Run {
	return l
}

// by is a stamp.
func by(t uint32, r uint8) api.Id {
	return api.Id{T: t, R: r}
}

// of is a bag of some operations.
func of(l ...api.Op) []api.Op {
	return l
}

// ids is some stamps.
func ids(l ...api.Id) []api.Id {
	return l
}

// first is the first section.
var first = api.Id{}

// endOf is the last stamp of a place; the zero one, if it has none.
func endOf(p []api.Run) api.Id {
	if len(p) == 0 {
		return first
	}
	r := p[len(p)-1]
	return by(r.T+uint32(r.Many)-1, r.R)
}

// letter is an insert of a code point.
func letter(n int, p ...api.Run) api.Op {
	return api.Op{Kind: 1, Id: endOf(p), At: p, Point: n}
}

func mark(p ...api.Run) api.Op {
	return api.Op{Kind: 2, Id: endOf(p), At: p}
}

func without(t uint32, r uint8, p ...api.Run) api.Op {
	return api.Op{Kind: 3, Id: by(t, r), At: p}
}

func join(t uint32, r uint8, p ...api.Run) api.Op {
	return api.Op{Kind: 4, Id: by(t, r), At: p}
}

// before is whether one stamp is less than another one, by the words of chapter 5.
func before(a, b api.Id) bool {
	return a.T < b.T || a.T == b.T && a.R < b.R
}

// byStamps puts operations in the order of their stamps.
func byStamps(l ...api.Op) []api.Op {
	slices.SortFunc(l, func(a, b api.Op) int {
		switch {
		case before(a.Id, b.Id):
			return -1
		case before(b.Id, a.Id):
			return 1
		}
		return 0
	})
	return l
}

// stampsOf is the stamps of a place that may be.
func stampsOf(p []api.Run) []api.Id {
	var l []api.Id
	for _, r := range p {
		for n := range r.Many {
			l = append(l, by(r.T+uint32(n), r.R))
		}
	}
	return l
}

// ahead is whether one place is ahead of another one, by the words of chapter 6, of their stamps.
func ahead(a, b []api.Id) bool {
	for i := range min(len(a), len(b)) {
		if a[i] != b[i] {
			return before(b[i], a[i])
		}
	}
	return len(a) < len(b)
}

// under is the place of a child, by the words of chapter 6, whether it may be or not.
func under(p []api.Run, id api.Id) []api.Run {
	q := slices.Clone(p)
	if end := len(q) - 1; end >= 0 && endOf(q) == by(id.T-1, id.R) {
		q[end].Many++
		return q
	}
	return append(q, run(id.T, id.R, 1))
}

// tooDeep is whether a place has more runs or more stamps than one may have.
func tooDeep(p []api.Run) bool {
	many := 0
	for _, r := range p {
		many += r.Many
	}
	return len(p) > 64 || many > 4096
}

// mayBe is what bags that may be are, by the words of chapter 11.
func mayBe(l []api.Op) bool {
	for i, o := range l {
		if op.Check(o) != api.OK || i > 0 && !before(l[i-1].Id, o.Id) {
			return false
		}
	}
	return len(l) <= 1024
}

// inOrder is a section by the words of chapter 13: its name, where it begins, and the stamps of that.
type inOrder struct {
	id   api.Id
	at   []api.Run
	from []api.Id
}

// sectionsInWords is the sections of a bag that may be, in order.
func sectionsInWords(l []api.Op) []inOrder {
	gone := map[api.Id]int{}
	for _, o := range l {
		if o.Kind == 4 {
			gone[endOf(o.At)]++
		}
	}
	out := []inOrder{{}}
	for _, o := range l {
		if o.Kind != 2 || gone[o.Id] > 0 {
			continue
		}
		s := inOrder{o.Id, o.At, stampsOf(o.At)}
		i := 1
		for i < len(out) && ahead(out[i].from, s.from) {
			i++
		}
		out = slices.Insert(out, i, s)
	}
	return out
}

// homeInWords is the home of a place, by its stamps: that of the last section that is not behind it.
func homeInWords(secs []inOrder, p []api.Id) api.Id {
	for _, s := range slices.Backward(secs) {
		if !ahead(p, s.from) {
			return s.id
		}
	}
	return first
}

// content is some of a bag's, by the words of chapter 14: its home, the stamps of its place, and whether it counts.
type content struct {
	op     api.Op
	home   api.Id
	all    []api.Id
	counts bool
}

// contentInWords is all content of a bag.
func contentInWords(l []api.Op, secs []inOrder) []content {
	held := map[api.Id]int{}
	for _, o := range l {
		held[o.Id]++
	}
	var out []content
	for _, o := range l {
		if o.Kind%2 == 0 {
			continue
		}
		c := content{op: o, all: stampsOf(o.At), counts: true}
		c.home = homeInWords(secs, c.all)
		for i, id := range c.all {
			if held[id] == 0 && homeInWords(secs, c.all[:i+1]) == c.home {
				c.counts = false
				break
			}
		}
		out = append(out, c)
	}
	return out
}

// words is what chapters 13 to 15 say of a bag, and the youngest time of all stamps in it, those of places too.
type words struct {
	bad  bool
	top  uint32
	secs []inOrder
	seen map[api.Id][]api.Element
}

// wordsOf is what has to be said of a bag.
func wordsOf(l []api.Op) words {
	if !mayBe(l) {
		return words{bad: true}
	}
	w := words{secs: sectionsInWords(l), seen: map[api.Id][]api.Element{}}
	for _, o := range l {
		for _, id := range append(stampsOf(o.At), o.Id) {
			w.top = max(w.top, id.T)
		}
	}
	held := contentInWords(l, w.secs)
	type end struct{ home, last api.Id }
	away := map[end]int{}
	for _, c := range held {
		if c.op.Kind == 3 && c.counts {
			away[end{c.home, endOf(c.op.At)}]++
		}
	}
	for _, c := range held {
		if c.op.Kind == 1 && c.counts && away[end{c.home, c.op.Id}] == 0 {
			w.seen[c.home] = append(w.seen[c.home], elementsOf(c.op)...)
		}
	}
	for _, l := range w.seen {
		slices.SortFunc(l, func(a, b api.Element) int {
			if ahead(stampsOf(a.At), stampsOf(b.At)) {
				return -1
			}
			return 1
		})
	}
	return w
}

// number is that of a section, in order; -1, if there is none.
func (w words) number(s api.Id) int {
	return slices.IndexFunc(w.secs, func(x inOrder) bool { return x.id == s })
}

// elementsOf is what is seen of inserts, in their order.
func elementsOf(l ...api.Op) []api.Element {
	var out []api.Element
	for _, o := range l {
		out = append(out, api.Element{Id: o.Id, At: o.At, Point: o.Point})
	}
	return out
}

// call is one of the four calls, by its letter, and all that is handed in to it.
type call struct {
	kind byte
	l    []api.Op
	r    uint8
	t    uint32
	s    api.Id
	k    int
	many int
	text string
}

// do is what the call answers.
func (c call) do() ([]api.Op, api.Errno) {
	switch c.kind {
	case 'i':
		return Insert(c.l, c.r, c.t, c.s, c.k, c.text)
	case 'd':
		return Delete(c.l, c.r, c.t, c.s, c.k, c.many)
	case 's':
		return Split(c.l, c.r, c.t, c.s, c.k)
	}
	return Merge(c.l, c.r, c.t, c.s)
}

// inWords is what the call has to answer, by the words of chapter 16.
func (c call) inWords(w words) ([]api.Op, api.Errno) {
	if w.bad || c.r > 7 || c.t < w.top {
		return nil, api.ErrBad
	}
	n := w.number(c.s)
	if n < 0 {
		return nil, api.ErrSection
	}
	seen, begin := w.seen[c.s], w.secs[n].at
	switch c.kind {
	case 'i':
		return c.insertInWords(seen, begin)
	case 'd':
		return c.deleteInWords(seen)
	case 's':
		return c.splitInWords(seen, begin, len(w.secs)-1)
	}
	switch {
	case n == 0:
		return nil, api.ErrSection
	case c.late(1):
		return nil, api.ErrTime
	}
	return of(join(c.t+1, c.r, begin...)), api.OK
}

// late is whether the last time of so many would be above MaxTime.
func (c call) late(many int) bool {
	return int64(c.t)+int64(many) > 1<<30
}

// leftInWords is the place left of the call's index.
func (c call) leftInWords(seen []api.Element, begin []api.Run) []api.Run {
	if c.k == 0 {
		return begin
	}
	return seen[c.k-1].At
}

func (c call) insertInWords(seen []api.Element, begin []api.Run) ([]api.Op, api.Errno) {
	points := []rune(c.text)
	switch {
	case c.k < 0 || c.k > len(seen):
		return nil, api.ErrArg
	case !utf8.ValidString(c.text):
		return nil, api.ErrPoint
	case len(points) == 0:
		return nil, api.ErrArg
	case len(points) > 64:
		return nil, api.ErrMany
	case c.late(len(points)):
		return nil, api.ErrTime
	}
	p := c.leftInWords(seen, begin)
	var l []api.Op
	for i, n := range points {
		p = under(p, by(c.t+1+uint32(i), c.r))
		if tooDeep(p) {
			return nil, api.ErrDeep
		}
		l = append(l, letter(int(n), p...))
	}
	return l, api.OK
}

func (c call) deleteInWords(seen []api.Element) ([]api.Op, api.Errno) {
	switch {
	case c.k < 0 || c.many < 1 || len(seen)-c.k < c.many:
		return nil, api.ErrArg
	case c.many > 64:
		return nil, api.ErrMany
	case c.late(c.many):
		return nil, api.ErrTime
	}
	var l []api.Op
	for i, x := range seen[c.k : c.k+c.many] {
		l = append(l, without(c.t+1+uint32(i), c.r, x.At...))
	}
	return l, api.OK
}

func (c call) splitInWords(seen []api.Element, begin []api.Run, live int) ([]api.Op, api.Errno) {
	switch {
	case c.k < 0 || c.k > len(seen):
		return nil, api.ErrArg
	case live >= 64:
		return nil, api.ErrFull
	case c.late(1):
		return nil, api.ErrTime
	}
	p := under(c.leftInWords(seen, begin), by(c.t+1, c.r))
	if tooDeep(p) {
		return nil, api.ErrDeep
	}
	return of(mark(p...)), api.OK
}

// same is whether two lists of elements are, in the same order.
func same(a, b []api.Element) bool {
	return slices.EqualFunc(a, b, func(a, b api.Element) bool {
		return a.Id == b.Id && a.Point == b.Point && slices.Equal(a.At, b.At)
	})
}

// sameOps is whether two lists of operations are the same.
func sameOps(a, b []api.Op) bool {
	return slices.EqualFunc(a, b, func(x, y api.Op) bool {
		return x.Kind == y.Kind && x.Id == y.Id && x.Point == y.Point && slices.Equal(x.At, y.At)
	})
}

// brief is as much of some operations as is short enough to be told.
func brief(l []api.Op) []api.Op {
	l = slices.Clone(l[:min(len(l), 16)])
	for i, o := range l {
		l[i].At = o.At[:min(len(o.At), 5)]
	}
	return l
}

// told is a call, short enough to be told.
type told struct {
	what       string
	size       int
	bag        []api.Op
	r          uint8
	t          uint32
	s          api.Id
	k, many    int
	text       string
	textLength int
}

func (c call) brief() told {
	return told{string(c.kind), len(c.l), brief(c.l), c.r, c.t, c.s, c.k, c.many, c.text[:min(len(c.text), 20)], len(c.text)}
}

// answers asks whether a call answers what it has to, and tells whether that was operations.
func answers(t *testing.T, c call, w words) bool {
	t.Helper()
	want, refusal := c.inWords(w)
	got, e := c.do()
	if !sameOps(got, want) || e != refusal {
		t.Fatalf("%+v: %v, %d; want %v, %d", c.brief(), brief(got), e, brief(want), refusal)
	}
	return e == api.OK
}

// page is a section, and what is seen of it.
type page struct {
	id   api.Id
	seen []api.Element
}

// pagesOf is all sections of a bag that may be, in order, as views show them.
func pagesOf(t *testing.T, l []api.Op) []page {
	t.Helper()
	all, e := home.All(l)
	if e != api.OK {
		t.Fatalf("All(%v): %d", brief(l), e)
	}
	var out []page
	for _, s := range all {
		seen, e := view.Elements(l, s)
		if e != api.OK {
			t.Fatalf("Elements(%v, in %v): %d", brief(l), s, e)
		}
		out = append(out, page{s, seen})
	}
	return out
}

// turned is all sections behind a call that answers these operations, by the words of P16.4.
func (c call) turned(pages []page, ops []api.Op) []page {
	n := slices.IndexFunc(pages, func(p page) bool { return p.id == c.s })
	seen := pages[n].seen
	switch c.kind {
	case 'i':
		pages[n].seen = slices.Concat(seen[:c.k], elementsOf(ops...), seen[c.k:])
	case 'd':
		pages[n].seen = slices.Concat(seen[:c.k], seen[c.k+c.many:])
	case 's':
		pages[n].seen = seen[:c.k]
		pages = slices.Insert(pages, n+1, page{ops[0].Id, seen[c.k:]})
	case 'm':
		pages[n-1].seen = slices.Concat(pages[n-1].seen, seen)
		pages = slices.Delete(pages, n, n+1)
	}
	return pages
}

// putTo is a bag with some operations put to it, each of which it has not yet.
func putTo(t *testing.T, l, ops []api.Op) []api.Op {
	t.Helper()
	for _, o := range ops {
		more, e := bag.Add(l, o)
		if e != api.OK || len(more) != len(l)+1 {
			t.Fatalf("%v put to %v: %d behind %d, %d", o, brief(l), len(more), len(l), e)
		}
		l = more
	}
	return l
}

// follows asks whether behind a call, with its operations put to the bag, all sections show what they have to, and the operations count there; and answers that bag.
func follows(t *testing.T, c call) []api.Op {
	t.Helper()
	ops, e := c.do()
	if e != api.OK {
		t.Fatalf("%+v: %d", c.brief(), e)
	}
	want := c.turned(pagesOf(t, c.l), ops)
	l := putTo(t, c.l, ops)
	got := pagesOf(t, l)
	if !slices.EqualFunc(got, want, func(a, b page) bool { return a.id == b.id && same(a.seen, b.seen) }) {
		t.Fatalf("behind %+v, with %v: %v; want %v", c.brief(), brief(ops), got, want)
	}
	if c.kind == 'i' || c.kind == 'd' {
		counts, e := cover.Counts(l, c.s)
		for _, o := range ops {
			if e != api.OK || !slices.ContainsFunc(counts, func(x api.Op) bool { return sameOps(of(x), of(o)) }) {
				t.Fatalf("behind %+v %v doesn't count: %v, %d", c.brief(), o, brief(counts), e)
			}
		}
	}
	return l
}

// nothingLacks is whether of what is homed in a section of the bag, and in the one ahead, too, for a join, nothing lacks an ancestor that is homed there: each is held, and is the element that a place tells.
func (c call) nothingLacks(w words) bool {
	n := w.number(c.s)
	here := ids(c.s)
	if c.kind == 'm' {
		here = append(here, w.secs[n-1].id)
	}
	held := map[api.Id]api.Op{}
	for _, o := range c.l {
		held[o.Id] = o
	}
	for _, o := range contentInWords(c.l, w.secs) {
		if !slices.Contains(here, o.home) {
			continue
		}
		p := at()
		for i, id := range o.all {
			p = under(p, id)
			x, there := held[id]
			if there && (x.Kind > 2 || !slices.Equal(x.At, p)) || !there && slices.Contains(here, homeInWords(w.secs, o.all[:i+1])) {
				return false
			}
		}
	}
	return true
}

// promised is whether P16.4 speaks of the call, if that answers operations: Insert and Delete of any bag, Split and Merge where nothing lacks an ancestor.
func (c call) promised(w words) bool {
	return c.kind == 'i' || c.kind == 'd' || c.nothingLacks(w)
}

// indices is those at the edges of a list, and all of a short one.
func indices(n int) []int {
	l := []int{math.MinInt, -1, n, n + 1, math.MaxInt}
	for k := range n {
		if n <= 4 || k < 2 || k >= n-2 || k == n/2 {
			l = append(l, k)
		}
	}
	return l
}

// texts is texts of no code point up to more than points are told of, of one to four bytes each, and bytes that are no code points, with too many around them, too.
func texts() []string {
	many := strings.Repeat
	return []string{
		"", "a", "\x00", "\u00e9", "\u20ac", "\U0001f600", "\U0010ffff", "\ufffd", "a\u00e9\u20ac\U0001f600",
		many("x", 63), many("x", 64), many("x", 65), many("\U0001f600", 64), many("\U0001f600", 65), many("\u00e9", 64), many("x", 1024), many("x", 1025), many("x", 5000),
		"\xff", "a\xc3", "\xc0\x80", "\xed\xa0\x80", "\xf4\x90\x80\x80", "\xe2\x82", many("x", 64) + "\x80", many("x", 65) + "\x80", many("x", 1025) + "\x80", "\x80" + many("x", 1025), many("\xff", 1025),
	}
}

// stampsAbout is stamps of the edges, of a bag's operations, of the places in it, and some beside them.
func stampsAbout(l []api.Op) []api.Id {
	out := ids(first, by(0, 1), by(0, 255), by(1, 0), by(1, 8), by(1<<30, 0), by(1<<30+1, 0), by(math.MaxUint32, 255))
	for i, o := range l {
		if o.Kind == 2 || len(l) <= 12 || i < 4 || i >= len(l)-4 {
			out = append(out, o.Id, endOf(o.At), by(o.Id.T, o.Id.R+8), by(o.Id.T+1, o.Id.R), by(o.Id.T, o.Id.R^1))
		}
	}
	slices.SortFunc(out, func(a, b api.Id) int {
		if before(a, b) {
			return -1
		}
		return 1
	})
	return slices.Compact(out)
}

// callsOn is calls of all four kinds on a stamp, with many an index, text and number.
func callsOn(c call, n int) []call {
	c.kind = 'm'
	out := []call{c}
	for _, k := range indices(n) {
		c.k = k
		c.kind = 's'
		out = append(out, c)
		c.kind = 'd'
		for _, many := range []int{math.MinInt, -1, 0, 1, 2, n - k, n - k + 1, 64, 65, math.MaxInt} {
			c.many = many
			out = append(out, c)
		}
		c.kind = 'i'
		for _, text := range []string{"", "a", "\u20acb", "\xff"} {
			c.text = text
			out = append(out, c)
		}
	}
	return out
}

// asksAbout asks calls on each section of a bag, and on what is none, and what follows of some; it tells how many answered operations, and of how many it asked what follows.
func asksAbout(t *testing.T, l []api.Op) (accepted, followed int) {
	t.Helper()
	w := wordsOf(l)
	for i, s := range stampsAbout(l) {
		n := len(w.seen[s])
		if !w.bad && w.number(s) < 0 {
			n = -1
		}
		for j, c := range callsOn(call{l: l, r: uint8(i % 8), t: w.top + uint32(i%3), s: s}, n) {
			if n < 0 && j%5 > 0 || !answers(t, c, w) {
				continue
			}
			accepted++
			if len(l) <= 960 && c.promised(w) {
				followed++
				follows(t, c)
			}
		}
		for _, c := range callsOn(call{l: l, s: s}, n)[:3] {
			for _, wrong := range []call{{r: 8, t: w.top}, {r: 255, t: w.top}, {r: 7, t: w.top - 1}, {r: 0, t: 0}, {r: 1, t: 1<<30 - 1}, {r: 1, t: 1 << 30}, {r: 7, t: math.MaxUint32}} {
				c.r, c.t = wrong.r, wrong.t
				answers(t, c, w)
			}
		}
	}
	return accepted, followed
}

// dice are numbers that look like chance, and are the same each time.
type dice struct {
	n uint32
}

func (d *dice) under(n int) int {
	d.n = d.n*1664525 + 1013904223
	return int(d.n>>8) % n
}

// next is a stamp behind one: of the same time, the next one, or later.
func (d *dice) next(id api.Id) api.Id {
	switch d.under(6) {
	case 0:
		return by(id.T+1, id.R)
	case 1:
		if id.R < 7 {
			return by(id.T, id.R+1)
		}
	}
	return by(id.T+1+uint32(d.under(4)/3), uint8(d.under(4)))
}

// grown is a bag of so many operations: elements under others, and what takes elements away; kinds tells how the kinds are shared out.
func grown(n int, seed uint32, kinds string) []api.Op {
	d := &dice{seed}
	var l []api.Op
	places := [][]api.Run{nil}
	id := by(3, 0)
	for range n {
		id = d.next(id)
		p := places[d.under(len(places))]
		if d.under(2) > 0 {
			p = places[max(0, len(places)-1-d.under(4))]
		}
		if endOf(p).T >= id.T || len(p) > 60 {
			p = nil
		}
		goal := p
		if len(goal) == 0 {
			goal = at(run(uint32(1+d.under(2)), uint8(d.under(8)), 1))
		}
		switch kinds[d.under(len(kinds))] {
		case 'i':
			l = append(l, letter(97+d.under(26), under(p, id)...))
		case 'm':
			l = append(l, mark(under(p, id)...))
		case 'd':
			l = append(l, without(id.T, id.R, goal...))
		case 'j':
			l = append(l, join(id.T, id.R, goal...))
		}
		if o := l[len(l)-1]; o.Kind < 3 {
			places = append(places, o.At)
		}
	}
	return l
}

// holed is a bag without some of its operations, one of so many.
func holed(l []api.Op, one int, seed uint32) []api.Op {
	d := &dice{seed}
	var left []api.Op
	for _, o := range l {
		if d.under(one) > 0 {
			left = append(left, o)
		}
	}
	return left
}

// only is a bag's directory, and of its content what is homed in a section, as a client holds it.
func only(l []api.Op, s api.Id) []api.Op {
	secs := sectionsInWords(l)
	var out []api.Op
	for _, o := range l {
		if o.Kind%2 == 0 || homeInWords(secs, stampsOf(o.At)) == s {
			out = append(out, o)
		}
	}
	return out
}

// some is bags of many lengths and kinds, whole ones, such with holes, and such of one section's content alone.
func some() [][]api.Op {
	l := [][]api.Op{nil, of()}
	for i, kinds := range []string{"i", "id", "m", "im", "imdj", "iiid", "iiiidddmj", "iimmj", "iiiiiiiimdj", "mj"} {
		for k, n := range []int{1, 2, 3, 5, 8, 13, 21, 40} {
			for turn := range 3 {
				seed := uint32(i*1000 + k*100 + turn)
				all := grown(n, seed, kinds)
				switch turn {
				case 1:
					all = holed(all, 4, seed)
				case 2:
					secs := sectionsInWords(all)
					all = only(all, secs[int(seed)%len(secs)].id)
				}
				l = append(l, all)
			}
		}
	}
	return l
}

// mixed is a bag whose places are made of few stamps by chance, so that many a stamp is that of another thing than the element that a place tells.
func mixed(d *dice) []api.Op {
	var l []api.Op
	for time := range uint32(8) {
		for r := range uint8(2) {
			id := by(time+2, r)
			var p []api.Run
			for t := range time + 1 {
				if d.under(3) == 0 {
					p = under(p, by(t+1, uint8(d.under(2))))
				}
			}
			o := api.Op{Kind: uint8(1 + d.under(4)), Id: id, At: p}
			switch o.Kind {
			case 1:
				o = letter(97+d.under(26), under(p, id)...)
			case 2:
				o.At = under(p, id)
			}
			if op.Check(o) == api.OK && d.under(4) > 0 {
				l = append(l, o)
			}
		}
	}
	return l
}

// alone is so many operations of one kind, or of some in turn, side by side, the last one ahead of all.
func alone(n int, kinds string) []api.Op {
	var l []api.Op
	for i := range n {
		t := uint32(2*i + 10)
		switch kinds[i%len(kinds)] {
		case 'i':
			l = append(l, letter(97, run(t, 1, 1)))
		case 'm':
			l = append(l, mark(run(t, 1, 1)))
		case 'd':
			l = append(l, without(t, 1, run(t-2, 1, 1)))
		case 'j':
			l = append(l, join(t, 1, run(t-2, 1, 1)))
		}
	}
	return l
}

// chain is inserts one under another one, in one run from t on.
func chain(t uint32, n int) []api.Op {
	var l []api.Op
	for i := range n {
		l = append(l, letter('a'+i%26, run(t, 0, i+1)))
	}
	return l
}

// manyRuns is a place of so many runs.
func manyRuns(n int) []api.Run {
	var p []api.Run
	for i := range n {
		p = append(p, run(uint32(i+1), uint8(i%2), 1))
	}
	return p
}

// The elements of what is known, in their order: Y, A, B under it, M under B, U under M, C under B (elder than M), D under C.
var (
	opA = letter('A', run(1, 0, 1))
	opB = letter('B', run(1, 0, 2))
	opC = letter('C', run(1, 0, 3))
	opD = letter('D', run(1, 0, 4))
	opM = mark(run(1, 0, 2), run(5, 1, 1))
	opU = letter('U', run(1, 0, 2), run(5, 1, 1), run(6, 0, 1))
	opY = letter('Y', run(7, 2, 1))
)

// knownBag shows YAB of the first section, UCD behind M.
func knownBag() []api.Op {
	return byStamps(opA, opB, opC, opD, opM, opU, opY)
}

// known is a call, and what it has to answer.
type known struct {
	what string
	c    call
	want []api.Op
	e    api.Errno
}

// asksKnown asks whether calls answer what is known, and by the words.
func asksKnown(t *testing.T, all []known) {
	t.Helper()
	for _, x := range all {
		if got, e := x.c.do(); !sameOps(got, x.want) || e != x.e {
			t.Errorf("%s: %v, %d; want %v, %d", x.what, brief(got), e, brief(x.want), x.e)
		}
		w := wordsOf(x.c.l)
		if answers(t, x.c, w) && x.c.promised(w) && len(x.c.l)+len(x.want) <= 1024 {
			follows(t, x.c)
		}
	}
}

// P16.1, P16.2: the chapter's own examples.
func TestExamples(t *testing.T) {
	a := of(letter('A', run(1, 0, 1)))
	asksKnown(t, []known{
		{"Insert(A, at 1, xy)", call{kind: 'i', l: a, r: 2, t: 5, k: 1, text: "xy"}, of(letter('x', run(1, 0, 1), run(6, 2, 1)), letter('y', run(1, 0, 1), run(6, 2, 2))), api.OK},
		{"Insert(none, at 0, x)", call{kind: 'i', r: 2, t: 5, text: "x"}, of(letter('x', run(6, 2, 1))), api.OK},
		{"Delete(A, at 0, 1)", call{kind: 'd', l: a, r: 2, t: 5, many: 1}, of(without(6, 2, run(1, 0, 1))), api.OK},
		{"Split(A, at 0)", call{kind: 's', l: a, r: 2, t: 5}, of(mark(run(6, 2, 1))), api.OK},
		{"Insert at 2", call{kind: 'i', l: a, r: 2, t: 5, k: 2, text: "x"}, nil, api.ErrArg},
		{"Insert of no text", call{kind: 'i', l: a, r: 2, t: 5, k: 1}, nil, api.ErrArg},
		{"Merge of 0", call{kind: 'm', l: a, r: 2, t: 5}, nil, api.ErrSection},
		{"t 0", call{kind: 'i', l: a, r: 2, k: 1, text: "x"}, nil, api.ErrBad},
	})
}

// P16.1: where inserts stand: the first one under what is left of the index, each other one under the one ahead; at 0 where the section begins.
func TestInserts(t *testing.T) {
	l := knownBag()
	m := opM.At
	gone := append(knownBag(), without(8, 0, opA.At...), without(9, 0, opU.At...))
	asksKnown(t, []known{
		{"ahead of all", call{kind: 'i', l: l, r: 3, t: 7, k: 0, text: "ab"}, of(letter('a', run(8, 3, 1)), letter('b', run(8, 3, 2))), api.OK},
		{"behind the first", call{kind: 'i', l: l, r: 3, t: 7, k: 1, text: "ab"}, of(letter('a', run(7, 2, 1), run(8, 3, 1)), letter('b', run(7, 2, 1), run(8, 3, 2))), api.OK},
		{"behind the first, of the same replica, right behind in time", call{kind: 'i', l: l, r: 2, t: 7, k: 1, text: "ab"}, of(letter('a', run(7, 2, 2)), letter('b', run(7, 2, 3))), api.OK},
		{"behind the first, of the same replica, later", call{kind: 'i', l: l, r: 2, t: 8, k: 1, text: "a"}, of(letter('a', run(7, 2, 1), run(9, 2, 1))), api.OK},
		{"between a parent and its child", call{kind: 'i', l: l, r: 0, t: 9, k: 2, text: "a"}, of(letter('a', run(1, 0, 1), run(10, 0, 1))), api.OK},
		{"at the end of the section", call{kind: 'i', l: l, r: 0, t: 9, k: 3, text: "a"}, of(letter('a', run(1, 0, 2), run(10, 0, 1))), api.OK},
		{"behind that", call{kind: 'i', l: l, r: 0, t: 9, k: 4, text: "a"}, nil, api.ErrArg},
		{"at 0 behind a mark", call{kind: 'i', l: l, r: 3, t: 7, s: opM.Id, k: 0, text: "a"}, of(letter('a', append(slices.Clone(m), run(8, 3, 1))...)), api.OK},
		{"at 1 behind a mark", call{kind: 'i', l: l, r: 3, t: 7, s: opM.Id, k: 1, text: "a"}, of(letter('a', append(slices.Clone(opU.At), run(8, 3, 1))...)), api.OK},
		{"at the end behind a mark", call{kind: 'i', l: l, r: 3, t: 7, s: opM.Id, k: 3, text: "a"}, of(letter('a', run(1, 0, 4), run(8, 3, 1))), api.OK},
		{"about what is taken away: at the same index, ahead of it", call{kind: 'i', l: gone, r: 3, t: 9, k: 1, text: "a"}, of(letter('a', run(7, 2, 1), run(10, 3, 1))), api.OK},
		{"behind what is taken away", call{kind: 'i', l: gone, r: 3, t: 9, k: 2, text: "a"}, of(letter('a', run(1, 0, 2), run(10, 3, 1))), api.OK},
		{"more than are left", call{kind: 'i', l: gone, r: 3, t: 9, k: 3, text: "a"}, nil, api.ErrArg},
		{"at 0 behind a mark, the first taken away", call{kind: 'i', l: gone, r: 3, t: 9, s: opM.Id, text: "a"}, of(letter('a', append(slices.Clone(m), run(10, 3, 1))...)), api.OK},
		{"into nothing", call{kind: 'i', l: of(), r: 7, t: 0, text: "a"}, of(letter('a', run(1, 7, 1))), api.OK},
		{"into what does not count", call{kind: 'i', l: of(opB, opC), r: 1, t: 3, text: "a"}, of(letter('a', run(4, 1, 1))), api.OK},
		{"behind the first of what does not count", call{kind: 'i', l: of(opB, opC), r: 1, t: 3, k: 1, text: "a"}, nil, api.ErrArg},
		{"into a mark alone", call{kind: 'i', l: of(opM), r: 1, t: 5, s: opM.Id, text: "ab"}, of(letter('a', run(1, 0, 2), run(5, 1, 2)), letter('b', run(1, 0, 2), run(5, 1, 3))), api.OK},
	})
}

// P16.1: code points of one to four bytes, each an insert, and the ones that may not be.
func TestTexts(t *testing.T) {
	for _, text := range texts() {
		w := wordsOf(nil)
		for _, c := range []call{{kind: 'i', r: 1, t: 9, text: text}, {kind: 'i', r: 1, t: 9, k: 1, text: text}, {kind: 'i', t: 1<<30 - 64, text: text}, {kind: 'i', t: 1 << 30, text: text}} {
			answers(t, c, w)
		}
		for _, s := range ids(first, opM.Id) {
			for k := range 4 {
				c := call{kind: 'i', l: knownBag(), r: 5, t: 7, s: s, k: k, text: text}
				if answers(t, c, wordsOf(c.l)) {
					l := follows(t, c)
					was, _ := view.Text(c.l, s)
					if got, e := view.Text(l, s); got != was[:k]+text+was[k:] || e != api.OK {
						t.Errorf("%q put into %q at %d: %q, %d", text, was, k, got, e)
					}
				}
			}
		}
	}
	many := func(n int) string { return strings.Repeat("\u20ac", n) }
	for _, x := range []struct {
		text string
		n    int
		e    api.Errno
	}{
		{"", 0, api.ErrArg}, {"a", 1, api.OK}, {"\u20ac", 1, api.OK}, {many(64), 64, api.OK}, {many(65), 0, api.ErrMany}, {many(1024), 0, api.ErrMany}, {many(1025), 0, api.ErrMany},
		{"\xff", 0, api.ErrPoint}, {many(64) + "\xe2", 0, api.ErrPoint}, {many(65) + "\xe2", 0, api.ErrPoint}, {many(1025) + "\xe2", 0, api.ErrPoint},
	} {
		if got, e := Insert(nil, 1, 9, first, 0, x.text); len(got) != x.n || e != x.e {
			t.Errorf("Insert of %d bytes: %d operations, %d; want %d, %d", len(x.text), len(got), e, x.n, x.e)
		}
	}
}

// P16.1: what deletes are of, and how many.
func TestDeletes(t *testing.T) {
	l := knownBag()
	gone := append(knownBag(), without(8, 0, opA.At...), without(9, 0, opU.At...))
	asksKnown(t, []known{
		{"the first", call{kind: 'd', l: l, r: 3, t: 7, k: 0, many: 1}, of(without(8, 3, opY.At...)), api.OK},
		{"one in the middle", call{kind: 'd', l: l, r: 3, t: 9, k: 1, many: 1}, of(without(10, 3, opA.At...)), api.OK},
		{"the last", call{kind: 'd', l: l, r: 3, t: 7, k: 2, many: 1}, of(without(8, 3, opB.At...)), api.OK},
		{"all", call{kind: 'd', l: l, r: 3, t: 7, k: 0, many: 3}, of(without(8, 3, opY.At...), without(9, 3, opA.At...), without(10, 3, opB.At...)), api.OK},
		{"all but the first", call{kind: 'd', l: l, r: 3, t: 7, k: 1, many: 2}, of(without(8, 3, opA.At...), without(9, 3, opB.At...)), api.OK},
		{"one more than all", call{kind: 'd', l: l, r: 3, t: 7, k: 0, many: 4}, nil, api.ErrArg},
		{"one more than are behind the first", call{kind: 'd', l: l, r: 3, t: 7, k: 1, many: 3}, nil, api.ErrArg},
		{"none", call{kind: 'd', l: l, r: 3, t: 7, k: 1, many: 0}, nil, api.ErrArg},
		{"none at the end", call{kind: 'd', l: l, r: 3, t: 7, k: 3, many: 0}, nil, api.ErrArg},
		{"one at the end", call{kind: 'd', l: l, r: 3, t: 7, k: 3, many: 1}, nil, api.ErrArg},
		{"one less than none", call{kind: 'd', l: l, r: 3, t: 7, k: 1, many: -1}, nil, api.ErrArg},
		{"less than none, behind the end", call{kind: 'd', l: l, r: 3, t: 7, k: 4, many: -1}, nil, api.ErrArg},
		{"from one ahead of the first", call{kind: 'd', l: l, r: 3, t: 7, k: -1, many: 1}, nil, api.ErrArg},
		{"from one ahead of the first, two", call{kind: 'd', l: l, r: 3, t: 7, k: -1, many: 2}, nil, api.ErrArg},
		{"very many", call{kind: 'd', l: l, r: 3, t: 7, k: 1, many: math.MaxInt}, nil, api.ErrArg},
		{"very many from very far on", call{kind: 'd', l: l, r: 3, t: 7, k: math.MaxInt, many: math.MaxInt}, nil, api.ErrArg},
		{"so many that with k there are none", call{kind: 'd', l: l, r: 3, t: 7, k: math.MaxInt, many: 1}, nil, api.ErrArg},
		{"very many from the least on", call{kind: 'd', l: l, r: 3, t: 7, k: math.MinInt, many: math.MaxInt}, nil, api.ErrArg},
		{"the least", call{kind: 'd', l: l, r: 3, t: 7, k: 1, many: math.MinInt}, nil, api.ErrArg},
		{"the least from the least on", call{kind: 'd', l: l, r: 3, t: 7, k: math.MinInt, many: math.MinInt}, nil, api.ErrArg},
		{"the first behind a mark", call{kind: 'd', l: l, r: 3, t: 7, s: opM.Id, k: 0, many: 2}, of(without(8, 3, opU.At...), without(9, 3, opC.At...)), api.OK},
		{"the last behind a mark", call{kind: 'd', l: l, r: 3, t: 7, s: opM.Id, k: 2, many: 1}, of(without(8, 3, opD.At...)), api.OK},
		{"about what is taken away", call{kind: 'd', l: gone, r: 3, t: 9, k: 0, many: 2}, of(without(10, 3, opY.At...), without(11, 3, opB.At...)), api.OK},
		{"what is taken away", call{kind: 'd', l: gone, r: 3, t: 9, k: 2, many: 1}, nil, api.ErrArg},
		{"one of none", call{kind: 'd', r: 3, t: 9, many: 1}, nil, api.ErrArg},
		{"one of a mark alone", call{kind: 'd', l: of(opM), r: 3, t: 9, s: opM.Id, many: 1}, nil, api.ErrArg},
		{"one of what does not count", call{kind: 'd', l: of(opB), r: 3, t: 9, many: 1}, nil, api.ErrArg},
	})
}

// P16.1: up to 64 elements are taken away at once; more are refused only if they are there.
func TestDeletesMany(t *testing.T) {
	l := chain(1, 70)
	for _, x := range []struct {
		k, many int
		e       api.Errno
	}{
		{0, 63, api.OK}, {0, 64, api.OK}, {6, 64, api.OK}, {5, 64, api.OK}, {7, 64, api.ErrArg}, {0, 65, api.ErrMany}, {5, 65, api.ErrMany}, {6, 65, api.ErrArg}, {0, 70, api.ErrMany}, {0, 71, api.ErrArg}, {69, 1, api.OK}, {70, 1, api.ErrArg},
	} {
		c := call{kind: 'd', l: l, r: 1, t: 70, k: x.k, many: x.many}
		got, e := c.do()
		if e != x.e || e == api.OK && len(got) != x.many {
			t.Errorf("Delete of %d from %d on of 70: %d, %d; want %d", x.many, x.k, len(got), e, x.e)
		}
		if answers(t, c, wordsOf(l)) {
			follows(t, c)
		}
	}
	for _, n := range []int{63, 64, 65} {
		w := wordsOf(chain(1, n))
		for _, many := range []int{63, 64, 65, 66} {
			answers(t, call{kind: 'd', l: chain(1, n), r: 1, t: 70, many: many}, w)
		}
	}
}

// P16.2: where marks stand.
func TestSplits(t *testing.T) {
	l := knownBag()
	asksKnown(t, []known{
		{"ahead of all", call{kind: 's', l: l, r: 3, t: 7, k: 0}, of(mark(run(8, 3, 1))), api.OK},
		{"behind the first", call{kind: 's', l: l, r: 2, t: 7, k: 1}, of(mark(run(7, 2, 2))), api.OK},
		{"behind the second", call{kind: 's', l: l, r: 2, t: 7, k: 2}, of(mark(run(1, 0, 1), run(8, 2, 1))), api.OK},
		{"at the end of the section", call{kind: 's', l: l, r: 0, t: 9, k: 3}, of(mark(run(1, 0, 2), run(10, 0, 1))), api.OK},
		{"behind that", call{kind: 's', l: l, r: 0, t: 9, k: 4}, nil, api.ErrArg},
		{"one ahead of the first", call{kind: 's', l: l, r: 0, t: 9, k: -1}, nil, api.ErrArg},
		{"very far", call{kind: 's', l: l, r: 0, t: 9, k: math.MaxInt}, nil, api.ErrArg},
		{"the least", call{kind: 's', l: l, r: 0, t: 9, k: math.MinInt}, nil, api.ErrArg},
		{"at 0 behind a mark", call{kind: 's', l: l, r: 3, t: 7, s: opM.Id, k: 0}, of(mark(append(slices.Clone(opM.At), run(8, 3, 1))...)), api.OK},
		{"at 2 behind a mark", call{kind: 's', l: l, r: 3, t: 7, s: opM.Id, k: 2}, of(mark(run(1, 0, 3), run(8, 3, 1))), api.OK},
		{"at the end behind a mark", call{kind: 's', l: l, r: 3, t: 7, s: opM.Id, k: 3}, of(mark(run(1, 0, 4), run(8, 3, 1))), api.OK},
		{"nothing", call{kind: 's', r: 0, t: 0}, of(mark(run(1, 0, 1))), api.OK},
		{"behind the first of nothing", call{kind: 's', r: 0, t: 0, k: 1}, nil, api.ErrArg},
		{"a mark alone", call{kind: 's', l: of(opM), r: 1, t: 5, s: opM.Id}, of(mark(run(1, 0, 2), run(5, 1, 2))), api.OK},
	})
}

// P16.2: up to 64 live marks, of which those that are joined are none.
func TestSplitsUpToMaxMarks(t *testing.T) {
	for _, n := range []int{0, 1, 62, 63, 64, 65, 100} {
		l := append(alone(n, "m"), letter('x', run(500, 1, 1)))
		s := first
		if n > 0 {
			s = l[n-1].Id
		}
		want := api.OK
		if n >= 64 {
			want = api.ErrFull
		}
		for _, s := range ids(first, s) {
			for k := range 2 {
				c := call{kind: 's', l: l, r: 1, t: 500, s: s, k: k}
				w := wordsOf(l)
				_, e := c.do()
				if k <= len(w.seen[s]) && e != want || k > len(w.seen[s]) && e != api.ErrArg {
					t.Errorf("Split at %d of %v with %d live marks: %d; want %d", k, s, n, e, want)
				}
				answers(t, c, w)
				c.t = 1 << 30
				answers(t, c, w)
			}
		}
		if n == 0 {
			continue
		}
		joined := append(slices.Clone(l), join(600, 0, l[0].At...), join(600, 1, l[0].At...), join(601, 0, run(3, 3, 1)))
		c := call{kind: 's', l: joined, r: 1, t: 601, s: first, k: 1}
		if _, e := c.do(); (e == api.OK) != (n < 65) {
			t.Errorf("Split with %d marks, one of them joined: %d", n, e)
		}
		// All others go on, however many live marks there are.
		for _, c := range []call{{kind: 'i', text: "x"}, {kind: 'd', many: 1}, {kind: 'm', s: s}} {
			c.l, c.r, c.t = l, 1, 500
			if _, e := c.do(); e != api.OK {
				t.Errorf("%c with %d live marks: %d", c.kind, n, e)
			}
			answers(t, c, wordsOf(l))
		}
	}
}

// P16.2: what joins are of: the mark of a section, not of the first one, nor of what is joined.
func TestMerges(t *testing.T) {
	n := mark(run(1, 0, 3), run(9, 0, 1))
	l := append(knownBag(), n)
	joined := append(slices.Clone(l), join(10, 0, opM.At...))
	asksKnown(t, []known{
		{"the first section", call{kind: 'm', l: l, r: 3, t: 9}, nil, api.ErrSection},
		{"the first section of none", call{kind: 'm', r: 3, t: 9}, nil, api.ErrSection},
		{"the second one", call{kind: 'm', l: l, r: 3, t: 9, s: opM.Id}, of(join(10, 3, opM.At...)), api.OK},
		{"the third one", call{kind: 'm', l: l, r: 3, t: 11, s: n.Id}, of(join(12, 3, n.At...)), api.OK},
		{"one that is joined", call{kind: 'm', l: joined, r: 3, t: 10, s: opM.Id}, nil, api.ErrSection},
		{"one behind one that is joined", call{kind: 'm', l: joined, r: 3, t: 10, s: n.Id}, of(join(11, 3, n.At...)), api.OK},
		{"content", call{kind: 'm', l: l, r: 3, t: 9, s: opA.Id}, nil, api.ErrSection},
		{"nothing there", call{kind: 'm', l: l, r: 3, t: 9, s: by(9, 1)}, nil, api.ErrSection},
		{"a mark alone", call{kind: 'm', l: of(opM), r: 3, t: 5, s: opM.Id}, of(join(6, 3, opM.At...)), api.OK},
	})
}

// All: a replica is from 0 to 7, whatever else is asked.
func TestReplicas(t *testing.T) {
	l := knownBag()
	w := wordsOf(l)
	for r := range 256 {
		for _, c := range []call{{kind: 'i', k: 1, text: "x"}, {kind: 'd', k: 1, many: 1}, {kind: 's', k: 1}, {kind: 'm', s: opM.Id}} {
			c.l, c.r, c.t = l, uint8(r), 7
			got, e := c.do()
			if r < 8 && (e != api.OK || got[0].Id != by(8, uint8(r))) || r > 7 && (e != api.ErrBad || got != nil) {
				t.Errorf("%c by %d: %v, %d", c.kind, r, got, e)
			}
			answers(t, c, w)
		}
	}
}

// All: the time is at least that of each stamp of the bag, whatever the youngest one is of, wherever that is homed.
func TestTimes(t *testing.T) {
	for what, o := range map[string]api.Op{
		"an insert in the section":     letter('x', run(1, 0, 1), run(50, 1, 1)),
		"an insert homed elsewhere":    letter('x', run(1, 0, 3), run(50, 1, 1)),
		"an insert that doesn't count": letter('x', run(2, 3, 1), run(50, 0, 1)),
		"a delete in the section":      without(50, 3, opB.At...),
		"a delete homed elsewhere":     without(50, 3, opC.At...),
		"a delete of nothing there":    without(50, 3, run(3, 3, 1)),
		"a mark":                       mark(run(1, 0, 3), run(50, 0, 1)),
		"a join":                       join(50, 0, run(3, 3, 1)),
		"a join of a mark":             join(50, 7, opM.At...),
	} {
		l := append(knownBag(), o)
		n := mark(run(8, 3, 1))
		l = byStamps(append(l, n)...)
		w := wordsOf(l)
		for _, c := range []call{{kind: 'i', text: "x"}, {kind: 'd', many: 1}, {kind: 's'}, {kind: 'm', s: n.Id}, {kind: 'i', s: n.Id, text: "x"}, {kind: 'd', s: n.Id, many: 1}, {kind: 's', s: n.Id}} {
			c.l = l
			if c.kind == 'd' && c.s == first { // it shows nothing, ahead of n
				c.s = n.Id
			}
			for _, x := range []struct {
				t uint32
				e api.Errno
			}{{0, api.ErrBad}, {8, api.ErrBad}, {49, api.ErrBad}, {50, api.OK}, {51, api.OK}, {1000, api.OK}, {1<<30 - 1, api.OK}, {1 << 30, api.ErrTime}, {1<<30 + 1, api.ErrTime}, {math.MaxUint32, api.ErrTime}} {
				for _, r := range []uint8{0, 7} {
					c.r, c.t = r, x.t
					got, e := c.do()
					if e != x.e || e == api.OK && got[0].Id != by(x.t+1, r) {
						t.Errorf("%s: %c at %d: %v, %d; want %d", what, c.kind, x.t, got, e, x.e)
					}
					answers(t, c, w)
				}
			}
		}
	}
}

// P16.1, P16.2: times come up to MaxTime, not above it, by the last of several alone, too.
func TestComesToMaxTime(t *testing.T) {
	l := append(chain(1, 66), mark(run(100, 0, 1)))
	m := by(100, 0)
	w := wordsOf(l)
	for _, n := range []int{1, 2, 3, 63, 64} {
		for _, late := range []int{-n, -1, 0, 1, 2, n, n + 1, 5000} {
			time := uint32(1<<30 - n + late)
			for _, c := range []call{{kind: 'i', s: m, k: 3, text: strings.Repeat("x", n)}, {kind: 'i', text: strings.Repeat("\u20ac", n)}, {kind: 'd', s: m, k: 1, many: n}} {
				c.l, c.r, c.t = l, 4, time
				got, e := c.do()
				if late > 0 && (e != api.ErrTime || got != nil) || late <= 0 && (e != api.OK || got[n-1].Id != by(time+uint32(n), 4)) {
					t.Errorf("%d by %c at %d: %v, %d", n, c.kind, time, brief(got), e)
				}
				answers(t, c, w)
			}
		}
	}
	for _, late := range []int{-2, -1, 0, 1, 1 << 30, 3<<30 - 1} {
		for _, c := range []call{{kind: 's', s: m, k: 3}, {kind: 's'}, {kind: 'm', s: m}} {
			c.l, c.r, c.t = l, 4, uint32(1<<30+late)
			if _, e := c.do(); (e == api.OK) != (late < 0) || late >= 0 && e != api.ErrTime {
				t.Errorf("%c at MaxTime and %d: %d", c.kind, late, e)
			}
			answers(t, c, w)
		}
	}
	// A bag whose youngest stamp is of MaxTime has no times left, what is in it may be seen all the same.
	last := of(letter('x', run(1<<30, 0, 1)), mark(run(1<<30, 1, 1)))
	for _, c := range []call{{kind: 'i', text: "x"}, {kind: 'd', s: by(1<<30, 1), many: 1}, {kind: 's'}, {kind: 'm', s: by(1<<30, 1)}} {
		c.l, c.r, c.t = last, 7, 1<<30
		if got, e := c.do(); e != api.ErrTime || got != nil {
			t.Errorf("%c behind MaxTime: %v, %d", c.kind, got, e)
		}
		c.t--
		if got, e := c.do(); e != api.ErrBad || got != nil {
			t.Errorf("%c behind MaxTime, told to be elder: %v, %d", c.kind, got, e)
		}
	}
}

// deepSection is a mark whose place has so many stamps, and, if there is room, an element right under it.
func deepSection(n int) []api.Op {
	l := of(mark(run(1, 0, n)))
	if n < 4096 {
		l = append(l, letter('a', run(1, 0, n+1)))
	}
	return l
}

// P16.1, P16.2: places of the most stamps have no children, by the last of several alone, too; what stands there may be taken away, and joined.
func TestManyStampsDeep(t *testing.T) {
	for _, n := range []int{4096, 4095, 4094, 4093, 4032, 4031, 3000} {
		l := deepSection(n)
		m, w := l[0].Id, wordsOf(l)
		for k := range len(l) {
			room := 4096 - n - k
			for _, many := range []int{room - 1, room, room + 1, 1, 2, 63, 64} {
				if many < 1 || many > 64 {
					continue
				}
				for _, r := range []uint8{0, 3} {
					for _, time := range []uint32{m.T + 1, 5000, 1<<30 - 1} {
						c := call{kind: 'i', l: l, r: r, t: max(time, w.top), s: m, k: k, text: strings.Repeat("x", many)}
						want := api.OK
						switch {
						case c.late(many):
							want = api.ErrTime
						case many > room:
							want = api.ErrDeep
						}
						if got, e := c.do(); e != want || e != api.OK && got != nil {
							t.Errorf("Insert of %d under %d stamps: %v, %d; want %d", many, n+k, brief(got), e, want)
						}
						answers(t, c, w)
					}
				}
			}
			c := call{kind: 's', l: l, r: 1, t: 5000, s: m, k: k}
			if _, e := c.do(); (e == api.OK) != (room > 0) || room == 0 && e != api.ErrDeep {
				t.Errorf("Split under %d stamps: %d", n+k, e)
			}
			answers(t, c, w)
			c.t = 1 << 30
			answers(t, c, w)
		}
		for _, c := range []call{{kind: 'm', s: m}, {kind: 'd', s: m, many: 1}, {kind: 'i', text: "x"}, {kind: 's'}} {
			c.l, c.r, c.t = l, 2, 5000
			if _, e := c.do(); (e == api.OK) != (c.kind != 'd' || n < 4096) {
				t.Errorf("%c with a mark of %d stamps: %d", c.kind, n, e)
			}
			answers(t, c, w)
		}
		if n > 4090 && n < 4096 {
			follows(t, call{kind: 'i', l: l, r: 0, t: m.T + 1, s: m, k: 0, text: strings.Repeat("x", 4096-n)})
			follows(t, call{kind: 'd', l: l, r: 0, t: m.T + 1, s: m, k: 0, many: 1})
		}
	}
}

// P16.1, P16.2: places of the most runs have children by which the last run goes on, and no others.
func TestManyRunsDeep(t *testing.T) {
	for _, n := range []int{62, 63, 64} {
		var l []api.Op
		for i := range n {
			l = append(l, letter('a', manyRuns(i+1)...))
		}
		w := wordsOf(l)
		end := endOf(manyRuns(n))
		for _, x := range []struct {
			r    uint8
			t    uint32
			k    int
			goes bool
		}{{end.R, end.T, n, true}, {end.R, end.T + 1, n, n < 64}, {end.R ^ 1, end.T, n, n < 64}, {7, 99, n, n < 64}, {7, 99, n - 1, true}, {7, 99, 0, true}} {
			for _, c := range []call{{kind: 'i', text: "x"}, {kind: 'i', text: strings.Repeat("x", 64)}, {kind: 's'}} {
				c.l, c.r, c.t, c.k = l, x.r, x.t, x.k
				got, e := c.do()
				if (e == api.OK) != x.goes || !x.goes && (e != api.ErrDeep || got != nil) {
					t.Errorf("%c by %d at %d behind %d of %d runs: %v, %d", c.kind, x.r, x.t, x.k, n, brief(got), e)
				}
				if answers(t, c, w) {
					follows(t, c)
				}
			}
		}
		follows(t, call{kind: 'd', l: l, r: 7, t: 99, k: n - 1, many: 1})
	}
	m := mark(manyRuns(64)...)
	w := wordsOf(of(m))
	for _, r := range []uint8{0, 1} {
		for _, time := range []uint32{64, 65} {
			for _, c := range []call{{kind: 'i', text: "xy"}, {kind: 's'}, {kind: 'm'}} {
				c.l, c.r, c.t, c.s = of(m), r, time, m.Id
				if _, e := c.do(); (e == api.OK) != (c.kind == 'm' || r == m.Id.R && time == 64) {
					t.Errorf("%c by %d at %d behind a mark of 64 runs: %d", c.kind, r, time, e)
				}
				answers(t, c, w)
			}
		}
	}
}

// P1, All: stamps that are no sections: of marks that are joined, of content, of nothing there, such as may not be.
func TestRefusesSections(t *testing.T) {
	n := mark(run(2, 3, 1))
	l := of(opA, n, opM, opU, without(7, 0, opA.At...), join(8, 0, opM.At...), without(9, 0, n.At...), join(9, 1, run(3, 3, 1)))
	for what, s := range map[string]api.Id{
		"a mark that is joined": opM.Id, "an insert": opA.Id, "an insert under a mark": opU.Id, "a delete": by(7, 0), "a delete of a mark": by(9, 0), "a join": by(8, 0), "a join of nothing": by(9, 1),
		"what is joined, and not there": by(3, 3), "what is stood on, and not there": by(2, 0), "nothing there": by(4, 0), "a mark's time, another replica": by(2, 2), "a mark's replica, another time": by(3, 3),
		"a mark's replica and eight": by(2, 11), "no time": by(0, 1), "no time, the last replica": by(0, 255), "too late a time": by(1<<30+1, 0), "a mark's time and 2^31": by(1<<31+2, 3), "the greatest": by(math.MaxUint32, 255),
	} {
		for _, l := range [][]api.Op{l, nil, of(opA, opB)} {
			w := wordsOf(l)
			for _, c := range callsOn(call{l: l, r: 7, t: 9, s: s}, 1) {
				if got, e := c.do(); e != api.ErrSection || got != nil {
					t.Fatalf("%s: %+v: %v, %d", what, c.brief(), got, e)
				}
				answers(t, c, w)
				c.r = 8
				answers(t, c, w)
				c.r, c.t = 1, 1<<30
				answers(t, c, w)
			}
		}
	}
	for _, c := range callsOn(call{l: l, r: 7, t: 9, s: n.Id}, 0) {
		answers(t, c, wordsOf(l))
	}
}

// bad is operations that may not be.
func bad() []api.Op {
	return []api.Op{
		{}, {Kind: 1, Id: by(9, 0)}, {Kind: 3, Id: by(9, 0), At: at()}, {Kind: 255, Id: by(math.MaxUint32, 255), Point: math.MinInt},
		{Kind: 0, Id: by(9, 0), At: at(run(9, 0, 1))}, {Kind: 5, Id: by(9, 0), At: at(run(9, 0, 1))}, {Kind: 1, Id: by(9, 0), At: at(run(8, 0, 1)), Point: 97}, {Kind: 2, Id: by(9, 0), At: at(run(9, 0, 1)), Point: 1},
		letter(97, run(0, 0, 1)), letter(97, run(9, 8, 1)), letter(97, run(1<<30+1, 0, 1)), letter(97, run(9, 0, math.MaxInt)), letter(97, run(1, 0, 4097)), letter(97, run(8, 0, 1), run(9, 0, 1)),
		letter(0xd800, run(9, 0, 1)), letter(-1, run(9, 0, 1)), letter(1<<32+97, run(9, 0, 1)), without(9, 0, run(9, 0, 1)), join(9, 0, run(9, 0, 1)), without(9, 7, run(1, 0, 9)), without(9, 8, run(1, 0, 1)),
	}
}

// refusesAll asks whether all calls refuse a bag, whatever is handed in with it, and answer nothing beside the error.
func refusesAll(t *testing.T, what string, l []api.Op) {
	t.Helper()
	for _, s := range ids(first, by(9, 0), by(5, 1), by(8, 8), by(10, 1)) {
		for i, c := range callsOn(call{l: l, s: s}, 3) {
			c.r, c.t = []uint8{0, 7, 8, 255}[i%4], []uint32{0, 9, 1 << 29, 1 << 30, math.MaxUint32}[i%5]
			if got, e := c.do(); got != nil || e != api.ErrBad {
				t.Fatalf("%s: %+v: %v, %d", what, c.brief(), brief(got), e)
			}
		}
	}
}

// P1, All: bags that may not be are refused by each of the four calls, with all else right, and with all else wrong.
func TestAllRefuseWrongs(t *testing.T) {
	d, j := without(8, 0, opA.At...), join(9, 1, opM.At...)
	back := grown(40, 6, "imdj")
	slices.Reverse(back)
	for what, l := range map[string][]api.Op{
		"two whose stamps fall":        of(opB, opA),
		"two that fall by the replica": of(letter('a', run(2, 1, 1)), letter('a', run(2, 0, 1))),
		"an insert twice":              of(opA, opA),
		"a delete ahead of its insert": of(d, opA),
		"a mark twice":                 of(opA, opM, opM),
		"one that falls at the end":    of(opA, opB, opM, d, j, opC),
		"one that falls at the front":  of(opD, opA, opB, opC, opM),
		"all in another order":         back,
		"one too many":                 chain(1, 1025),
		"one mark too many":            alone(1025, "m"),
		"very many":                    alone(1<<13, "imdj"),
		"very many of nothing":         make([]api.Op, 1<<13),
		"good ones, and a zero one":    of(opA, opB, opM, api.Op{}),
	} {
		refusesAll(t, what, l)
	}
	for _, o := range bad() {
		if op.Check(o) != api.ErrBad {
			t.Fatalf("%v may be", o)
		}
		refusesAll(t, "one that may not be", of(o))
		refusesAll(t, "one that may not be ahead", of(o, opA, opM, opY, d, j))
		refusesAll(t, "one that may not be in the middle", of(opA, opM, o, without(10, 0, opA.At...)))
		refusesAll(t, "one that may not be at the end", of(opA, opM, opY, d, o))
	}
}

// fullBag is one of 64 live marks, the last section's of 4095 stamps, with an element right under it.
func fullBag() []api.Op {
	return append(alone(63, "m"), deepSection(4095)...)
}

// P1: of two errors the one that is named first is answered.
func TestFirstErrorFirst(t *testing.T) {
	l := fullBag()
	deep, shallow, none := by(4095, 0), by(10, 1), by(11, 1)
	twice := append(slices.Clone(l), l[0])
	long, bytes := strings.Repeat("x", 65), "\xff"
	for _, x := range []struct {
		c call
		e api.Errno
	}{
		// The bag, the replica, the time ahead of the section.
		{call{kind: 'i', l: twice, r: 1, t: 5000, s: none, text: "x"}, api.ErrBad},
		{call{kind: 'i', l: l, r: 8, t: 5000, s: none, text: "x"}, api.ErrBad},
		{call{kind: 'i', l: l, r: 1, t: 4095, s: none, text: "x"}, api.ErrBad},
		{call{kind: 'd', l: twice, r: 1, t: 5000, s: none, many: 1}, api.ErrBad},
		{call{kind: 'd', l: l, r: 8, t: 5000, s: none, many: 1}, api.ErrBad},
		{call{kind: 'd', l: l, r: 1, t: 4095, s: none, many: 1}, api.ErrBad},
		{call{kind: 's', l: twice, r: 1, t: 5000, s: none}, api.ErrBad},
		{call{kind: 's', l: l, r: 8, t: 5000, s: none}, api.ErrBad},
		{call{kind: 's', l: l, r: 1, t: 4095, s: none}, api.ErrBad},
		{call{kind: 'm', l: twice, r: 1, t: 5000, s: none}, api.ErrBad},
		{call{kind: 'm', l: l, r: 8, t: 5000, s: none}, api.ErrBad},
		{call{kind: 'm', l: l, r: 1, t: 4095, s: none}, api.ErrBad},
		// The replica ahead of the index, the section ahead of it, of times.
		{call{kind: 'i', l: l, r: 8, t: 5000, s: deep, k: 2, text: bytes}, api.ErrBad},
		{call{kind: 'i', l: l, r: 1, t: 5000, s: none, k: 9, text: bytes}, api.ErrSection},
		{call{kind: 'd', l: l, r: 1, t: 5000, s: none, k: 9, many: 99}, api.ErrSection},
		{call{kind: 's', l: l, r: 1, t: 5000, s: none, k: 9}, api.ErrSection},
		{call{kind: 'm', l: l, r: 1, t: 1 << 30, s: none}, api.ErrSection},
		{call{kind: 'i', l: l, r: 1, t: 1 << 30, s: none, text: "x"}, api.ErrSection},
		// Insert: the index, the code points, how many, times, depth.
		{call{kind: 'i', l: l, r: 1, t: 5000, s: shallow, k: 1, text: bytes}, api.ErrArg},
		{call{kind: 'i', l: l, r: 1, t: 5000, s: shallow, k: -1, text: bytes}, api.ErrArg},
		{call{kind: 'i', l: l, r: 1, t: 5000, s: shallow, k: 1, text: long}, api.ErrArg},
		{call{kind: 'i', l: l, r: 1, t: 1 << 30, s: shallow, k: 1, text: "x"}, api.ErrArg},
		{call{kind: 'i', l: l, r: 1, t: 5000, s: shallow, text: long + bytes}, api.ErrPoint},
		{call{kind: 'i', l: l, r: 1, t: 1 << 30, s: shallow, text: bytes}, api.ErrPoint},
		{call{kind: 'i', l: l, r: 1, t: 5000, s: deep, k: 1, text: bytes}, api.ErrPoint},
		{call{kind: 'i', l: l, r: 1, t: 1 << 30, s: deep, k: 1, text: ""}, api.ErrArg},
		{call{kind: 'i', l: l, r: 1, t: 1 << 30, s: shallow, text: long}, api.ErrMany},
		{call{kind: 'i', l: l, r: 1, t: 5000, s: deep, k: 1, text: long}, api.ErrMany},
		{call{kind: 'i', l: l, r: 1, t: 1 << 30, s: deep, k: 1, text: "x"}, api.ErrTime},
		{call{kind: 'i', l: l, r: 1, t: 1<<30 - 2, s: deep, k: 0, text: "xyz"}, api.ErrTime},
		{call{kind: 'i', l: l, r: 1, t: 1<<30 - 3, s: deep, k: 0, text: "xyz"}, api.ErrDeep},
		// Delete: how many there are, how many may be, times.
		{call{kind: 'd', l: chain(1, 66), r: 1, t: 1 << 30, k: 2, many: 65}, api.ErrArg},
		{call{kind: 'd', l: chain(1, 66), r: 1, t: 1 << 30, k: 1, many: 65}, api.ErrMany},
		{call{kind: 'd', l: chain(1, 66), r: 1, t: 1 << 30, k: 2, many: 64}, api.ErrTime},
		{call{kind: 'd', l: chain(1, 66), r: 1, t: 1 << 30, k: 0, many: 0}, api.ErrArg},
		// Split: the index, the marks, times, depth.
		{call{kind: 's', l: l, r: 1, t: 1 << 30, s: deep, k: 2}, api.ErrArg},
		{call{kind: 's', l: l, r: 1, t: 1 << 30, s: deep, k: -1}, api.ErrArg},
		{call{kind: 's', l: l, r: 1, t: 1 << 30, s: deep, k: 1}, api.ErrFull},
		{call{kind: 's', l: l, r: 1, t: 5000, s: deep, k: 1}, api.ErrFull},
		{call{kind: 's', l: l[1:], r: 1, t: 1 << 30, s: deep, k: 1}, api.ErrTime},
		{call{kind: 's', l: l[1:], r: 1, t: 5000, s: deep, k: 1}, api.ErrDeep},
		// Merge: the first section ahead of times.
		{call{kind: 'm', l: l, r: 1, t: 1 << 30}, api.ErrSection},
		{call{kind: 'm', l: l, r: 1, t: 1 << 30, s: deep}, api.ErrTime},
	} {
		if got, e := x.c.do(); e != x.e || got != nil {
			t.Errorf("%+v: %v, %d; want %d", x.c.brief(), got, e, x.e)
		}
		answers(t, x.c, wordsOf(x.c.l))
	}
}

// P1, P2: all that may be wrong, with all else that may be.
func TestAllOfAll(t *testing.T) {
	deep := by(4095, 0)
	full := slices.Concat(fullBag(), chain(4097, 66))
	less := full[1:]
	wrong := append(slices.Clone(full), full[0])
	met := map[api.Errno]int{}
	for _, l := range [][]api.Op{less, full, wrong} {
		w := wordsOf(l)
		for _, r := range []uint8{0, 7, 8, 255} {
			for _, time := range []uint32{0, 4161, 4162, 5000, 1<<30 - 65, 1<<30 - 64, 1<<30 - 63, 1<<30 - 1, 1 << 30, 1<<30 + 1, math.MaxUint32} {
				for _, s := range ids(first, deep, by(12, 1), by(13, 1)) {
					c := call{l: l, r: r, t: time, s: s, kind: 'm'}
					answers(t, c, w)
					for _, k := range []int{-1, 0, 1, 2, 3, 65, 66, 67, math.MaxInt} {
						c.k = k
						c.kind = 's'
						answers(t, c, w)
						c.kind = 'd'
						for _, many := range []int{-1, 0, 1, 63, 64, 65, 66, 67, math.MaxInt} {
							c.many = many
							answers(t, c, w)
						}
						c.kind = 'i'
						for i, text := range texts() {
							if k > 1 && k < math.MaxInt && i%3 > 0 {
								continue
							}
							c.text = text
							answers(t, c, w)
							_, e := c.inWords(w)
							met[e]++
						}
					}
				}
			}
		}
	}
	for _, e := range []api.Errno{api.OK, api.ErrArg, api.ErrMany, api.ErrBad, api.ErrPoint, api.ErrTime, api.ErrDeep, api.ErrSection} {
		if met[e] < 10 {
			t.Errorf("%d met %d times by Insert: too few to tell", e, met[e])
		}
	}
}

// P16.1, P16.2, P16.4: bags of many lengths and kinds, each section of them, and what is none.
func TestTellsAll(t *testing.T) {
	accepted, followed := 0, 0
	for _, l := range some() {
		a, f := asksAbout(t, l)
		accepted, followed = accepted+a, followed+f
	}
	if accepted < 5000 || followed < 5000 {
		t.Errorf("%d accepted, %d followed: too few to tell", accepted, followed)
	}
}

// P16.1, P16.2, P16.4: bags in which a stamp may be another thing's than the element that a place tells.
func TestMixedBags(t *testing.T) {
	d := &dice{1}
	accepted := 0
	for range 120 {
		a, _ := asksAbout(t, mixed(d))
		accepted += a
	}
	if accepted < 2000 {
		t.Errorf("%d accepted: too few to tell", accepted)
	}
}

// P16.1, P16.2: bags of 1023 and of 1024 operations, whose calls go on, though nothing more may be put to the greater one.
func TestComesToMaxOps(t *testing.T) {
	for _, n := range []int{1023, 1024} {
		for _, l := range [][]api.Op{chain(1, n), alone(n, "i"), alone(n, "id"), alone(n, "m"), alone(n, "mj"), alone(n, "j"), alone(n, "d"), alone(n, "imdj"), grown(n, 3, "iiiiiiiiiiimdj")} {
			w := wordsOf(l)
			for i, s := range stampsAbout(l)[:20] {
				many := len(w.seen[s])
				for _, k := range []int{-1, 0, many - 1, many, many + 1} {
					for _, c := range []call{{kind: 'i', text: "xyz"}, {kind: 'd', many: 1}, {kind: 'd', many: many - k}, {kind: 's'}, {kind: 'm'}} {
						c.l, c.r, c.t, c.s, c.k = l, uint8(i%8), w.top, s, k
						answers(t, c, w)
					}
				}
			}
		}
		l := chain(1, n)
		got, e := Insert(l, 0, 1024, first, n, "x")
		if e != api.OK || len(got) != 1 {
			t.Fatalf("Insert into %d: %v, %d", n, got, e)
		}
		if more, e := bag.Add(l, got[0]); (e == api.OK) != (n == 1023) || n == 1024 && e != api.ErrFull {
			t.Errorf("put to %d: %d, %d", n, len(more), e)
		}
	}
}

// sheet is a section on paper: its name, and its text.
type sheet struct {
	id   api.Id
	text []rune
}

// paper is a text in sections, as somebody would write it who knows no places.
type paper struct {
	sheets []sheet
}

// does what a call asks that is accepted, whose first operation has that stamp.
func (p *paper) does(c call, id api.Id) {
	n := slices.IndexFunc(p.sheets, func(s sheet) bool { return s.id == c.s })
	text := p.sheets[n].text
	switch c.kind {
	case 'i':
		p.sheets[n].text = slices.Concat(text[:c.k], []rune(c.text), text[c.k:])
	case 'd':
		p.sheets[n].text = slices.Concat(text[:c.k], text[c.k+c.many:])
	case 's':
		p.sheets[n].text = text[:c.k:c.k]
		p.sheets = slices.Insert(p.sheets, n+1, sheet{id, slices.Clone(text[c.k:])})
	case 'm':
		p.sheets[n-1].text = slices.Concat(p.sheets[n-1].text, text)
		p.sheets = slices.Delete(p.sheets, n, n+1)
	}
}

// next is a call on paper, by chance, that has to be accepted.
func (p *paper) next(d *dice) call {
	n := d.under(len(p.sheets))
	s := p.sheets[n]
	c := call{s: s.id, r: uint8(d.under(8)), k: d.under(len(s.text) + 1)}
	switch d.under(10) {
	case 0:
		c.kind = 's'
	case 1:
		if n > 0 {
			c.kind = 'm'
			return c
		}
		fallthrough
	case 2, 3, 4:
		if c.k < len(s.text) {
			c.kind, c.many = 'd', 1+d.under(min(64, len(s.text)-c.k, 5))
			return c
		}
		fallthrough
	default:
		c.kind, c.text = 'i', texts()[1+d.under(8)]
	}
	return c
}

// P16.4, V3: long days of calls by many replicas, one behind the other, make what they would on paper.
func TestAsOnPaper(t *testing.T) {
	for seed := range uint32(40) {
		d := &dice{seed}
		p := &paper{[]sheet{{}}}
		var l []api.Op
		time := uint32(0)
		for step := 0; step < 90 && len(l) < 300; step++ {
			c := p.next(d)
			c.l, c.t = l, time+uint32(d.under(3)/2)
			ops, e := c.do()
			if e != api.OK {
				t.Fatalf("%+v: %d", c.brief(), e)
			}
			p.does(c, ops[0].Id)
			l, time = putTo(t, l, ops), ops[len(ops)-1].Id.T
			all, e := home.All(l)
			if e != api.OK || len(all) != len(p.sheets) {
				t.Fatalf("behind %+v: sections %v, %d; want %d", c.brief(), all, e, len(p.sheets))
			}
			for i, s := range p.sheets {
				if got, e := view.Text(l, all[i]); all[i] != s.id || got != string(s.text) || e != api.OK {
					t.Fatalf("behind %+v, of %v: %q, %d; want %q of %v", c.brief(), all[i], got, e, string(s.text), s.id)
				}
			}
		}
	}
}

// P16.4, V3: what two replicas insert at once, each into what it holds, stands where each put it, when one has both.
func TestTwoAtOnce(t *testing.T) {
	together := 0
	for seed := range uint32(60) {
		l := grown(25, seed, "iiiiimd")
		w := wordsOf(l)
		d := &dice{seed}
		for _, x := range w.secs {
			n := len(w.seen[x.id])
			for range 3 {
				a := call{kind: 'i', l: l, r: 5, t: w.top, s: x.id, k: d.under(n + 1), text: "abc"}
				b := call{kind: 'i', l: l, r: 6, t: w.top + uint32(d.under(2)), s: x.id, k: d.under(n + 1), text: "xyz"}
				one, e := a.do()
				two, f := b.do()
				if e != api.OK || f != api.OK {
					t.Fatalf("%d, %d", e, f)
				}
				both, e := bag.Join(putTo(t, l, one), putTo(t, l, two))
				seen, f := view.Elements(both, x.id)
				if e != api.OK || f != api.OK {
					t.Fatalf("%d, %d", e, f)
				}
				// The text put at the same index by the younger one is ahead.
				was := slices.Clone(w.seen[x.id])
				var want []api.Element
				switch {
				case a.k < b.k:
					want = slices.Concat(was[:a.k], elementsOf(one...), was[a.k:b.k], elementsOf(two...), was[b.k:])
				default:
					want = slices.Concat(was[:b.k], elementsOf(two...), was[b.k:a.k], elementsOf(one...), was[a.k:])
				}
				if !same(seen, want) {
					t.Fatalf("%+v and %+v: %v; want %v", a.brief(), b.brief(), seen, want)
				}
				together++
			}
		}
	}
	if together < 300 {
		t.Errorf("%d at once: too few to tell", together)
	}
}

// memory is a bag's, with what lies around it: other operations, and, around each place, other runs.
type memory struct {
	ops    []api.Op
	places [][]api.Run
}

// lay is a bag as it is, in memory where others are around.
func lay(l []api.Op) (memory, []api.Op) {
	m := memory{ops: slices.Concat(of(letter('a', run(1, 0, 1))), l, of(letter('b', run(1<<30, 6, 1)), letter('c', run(1<<30, 7, 1))))}
	for i, o := range l {
		p := slices.Concat(at(run(1, 0, 1)), o.At, at(run(9, 9, 9), run(8, 8, 8)))
		m.places = append(m.places, p)
		m.ops[1+i].At = p[1 : 1+len(o.At)]
	}
	return m, m.ops[1 : 1+len(l)]
}

// copied is a memory as it is now.
func (m memory) copied() memory {
	was := memory{ops: slices.Clone(m.ops)}
	for _, p := range m.places {
		was.places = append(was.places, slices.Clone(p))
	}
	return was
}

// same is whether nothing was changed: no number, and no place is another memory's.
func (m memory) same(was memory) bool {
	for i, p := range m.places {
		in := m.ops[1+i].At
		if !slices.Equal(p, was.places[i]) || len(in) > 0 && &in[0] != &p[1] {
			return false
		}
	}
	return sameOps(m.ops, was.ops)
}

// spoil writes over all that a bag and the places in it have room for.
func (m memory) spoil() {
	for _, p := range m.places {
		spoilPlace(p)
	}
	for i := range m.ops {
		m.ops[i] = letter('z', run(78, 6, 1))
	}
}

// spoilPlace writes over all that a place has room for.
func spoilPlace(p []api.Run) {
	p = p[:cap(p)]
	for i := range p {
		p[i] = run(77, 7, 77)
	}
}

// twins is operations in new memory.
func twins(l []api.Op) []api.Op {
	var out []api.Op
	for _, o := range l {
		o.At = slices.Clone(o.At)
		out = append(out, o)
	}
	return out
}

// wellDone is calls of each kind on a section, with texts and numbers of more than one, that are accepted.
func wellDone(l []api.Op, w words, s api.Id) []call {
	n := len(w.seen[s])
	out := []call{
		{kind: 'i', text: "abcdefghij"}, {kind: 'i', k: n, text: "ab\u20ac"}, {kind: 'i', k: n / 2, text: "a"}, {kind: 's'}, {kind: 's', k: n}, {kind: 's', k: n / 2},
		{kind: 'd', many: min(n, 64)}, {kind: 'd', k: n - 1, many: 1}, {kind: 'd', k: n / 2, many: 1}, {kind: 'm'},
	}
	for i := range out {
		out[i].l, out[i].r, out[i].t, out[i].s = l, uint8(i%8), w.top, s
	}
	return slices.DeleteFunc(out, func(c call) bool {
		_, e := c.inWords(w)
		return e != api.OK
	})
}

// P16.3: bags are only read, by each call, such as may not be, and calls that are refused, too.
func TestOnlyReads(t *testing.T) {
	bags := some()
	for _, o := range bad() {
		bags = append(bags, of(opA, opM, o, without(1<<29, 0, opA.At...)))
	}
	for _, l := range bags {
		m, in := lay(l)
		was := m.copied()
		w := wordsOf(l)
		for _, s := range stampsAbout(l) {
			for _, c := range append(wellDone(in, w, s), callsOn(call{l: in, r: 1, t: w.top, s: s}, 2)...) {
				c.do()
			}
			c := call{kind: 'i', l: in, r: 9, t: w.top, s: s, text: "x"}
			c.do()
			if !m.same(was) {
				t.Fatalf("%v is turned, asked of %v", brief(l), s)
			}
		}
	}
}

// P16.3: what is answered is new memory, of the bag's, of another answer's, and each place of each other's: they stay as they are when one of these is changed.
func TestAnswersAreNewMemory(t *testing.T) {
	bags := append(some(), knownBag(), chain(1, 80))
	for _, l := range bags {
		w := wordsOf(l)
		for _, x := range w.secs {
			m, in := lay(l)
			was := m.copied()
			type answer struct{ got, want []api.Op }
			var kept []answer
			for _, c := range wellDone(in, w, x.id) {
				one, _ := c.do()
				two, _ := c.do()
				want := twins(one)
				kept = append(kept, answer{two, want})
				for i := range one {
					if !sameOps(one[i:], want[i:]) {
						t.Fatalf("the places that %+v answers share memory", c.brief())
					}
					spoilPlace(one[i].At)
				}
				one = one[:cap(one)]
				for i := range one {
					one[i] = letter('z', run(77, 7, 1))
				}
				if !m.same(was) || !sameOps(two, want) {
					t.Fatalf("what %+v answers shares memory", c.brief())
				}
				if three, e := c.do(); !sameOps(three, want) || e != api.OK {
					t.Fatalf("%+v, again: %v, %d; want %v", c.brief(), brief(three), e, brief(want))
				}
			}
			m.spoil()
			for _, a := range kept {
				if !sameOps(a.got, a.want) {
					t.Fatalf("%v changes with what was handed in", brief(a.want))
				}
			}
		}
	}
}

// P1, P2: nothing is kept from call to call: not a time, not what is seen of another bag, not an error.
func TestKeepsNothing(t *testing.T) {
	l := knownBag()
	c := call{kind: 'i', l: l, r: 3, t: 7, k: 1, text: "ab"}
	want := of(letter('a', run(7, 2, 1), run(8, 3, 1)), letter('b', run(7, 2, 1), run(8, 3, 2)))
	for i := range 4 {
		asksKnown(t, []known{
			{"first", c, want, api.OK},
			{"again", c, want, api.OK},
			{"a mark", call{kind: 's', l: l, r: 3, t: 7, k: 1}, of(mark(run(7, 2, 1), run(8, 3, 1))), api.OK},
			{"a join", call{kind: 'm', l: l, r: 3, t: 7, s: opM.Id}, of(join(8, 3, opM.At...)), api.OK},
			{"a delete", call{kind: 'd', l: l, r: 3, t: 7, k: 1, many: 1}, of(without(8, 3, opA.At...)), api.OK},
			{"of none", call{kind: 'i', r: 3, t: 0, text: "b"}, of(letter('b', run(1, 3, 1))), api.OK},
			{"of a bag that may not be", call{kind: 'i', l: of(opA, opA), r: 3, t: 7, text: "b"}, nil, api.ErrBad},
			{"of another section", call{kind: 'i', l: l, r: 3, t: 7 + uint32(i), s: opM.Id, k: 1, text: "b"}, of(letter('b', append(slices.Clone(opU.At), run(8+uint32(i), 3, 1))...)), api.OK},
		})
	}
}

// bagFrom is a bag of what bytes tell: each four a kind, a stamp, and an element to stand under or to take away; some are not put in, so that others wait for them.
func bagFrom(b []byte) []api.Op {
	var l []api.Op
	places := [][]api.Run{nil}
	id := by(0, 7)
	for ; len(b) >= 4; b = b[4:] {
		if r := b[1] % 8; r > id.R && b[1] >= 128 {
			id.R = r
		} else {
			id = by(id.T+1+uint32(b[1]>>5), r)
		}
		p := places[int(b[2])%len(places)]
		o := api.Op{Kind: b[0] % 6, Id: id, At: p}
		switch {
		case o.Kind < 3:
			o.At = under(p, id)
			places = append(places, o.At)
		case endOf(p).T == 0:
			o.At = at(run(uint32(b[3]), b[2]%8, 1+int(b[3]%3)))
		}
		if o.Kind == 1 {
			o.Point = int(b[3]) * 257
		}
		if b[0] < 192 {
			l = append(l, o)
		}
	}
	return l
}

// P1, P16.1 to P16.4: whatever bag, replica, time, stamp, indices and text, such as may not be too.
func FuzzEdit(f *testing.F) {
	f.Add([]byte{1, 0, 0, 97, 1, 0, 1, 98, 2, 1, 2, 0, 1, 0, 2, 99, 3, 2, 3, 0}, uint8(2), uint32(9), uint32(3), uint8(1), 0, 1, "xy")
	f.Add([]byte{1, 0, 0, 97, 193, 0, 1, 98, 1, 0, 2, 99, 2, 1, 2, 0, 4, 2, 4, 0, 3, 0, 3, 0}, uint8(0), uint32(1<<30-1), uint32(0), uint8(0), -1, 2, "\xff")
	f.Add([]byte{2, 0, 0, 0, 2, 1, 1, 0, 1, 1, 2, 0, 4, 0, 1, 0, 3, 129, 3, 0}, uint8(8), uint32(1<<30), uint32(2), uint8(1), 1, math.MaxInt, "")
	f.Add([]byte{5, 0, 0, 0}, uint8(7), uint32(math.MaxUint32), uint32(1<<30), uint8(7), 4096, 0, "a")
	f.Add([]byte{1, 0, 0, 65, 3, 64, 0, 1, 1, 1, 0, 66, 3, 1, 1, 0, 3, 2, 1, 0}, uint8(1), uint32(20), uint32(1), uint8(0), 2, 1, "\u20ac\U0001f600")
	f.Fuzz(func(t *testing.T, b []byte, r uint8, time, sectionTime uint32, sectionR uint8, k, many int, text string) {
		// Long ones are asked elsewhere: here many are, fast.
		l := bagFrom(b[:min(len(b), 120)])
		m, in := lay(l)
		was := m.copied()
		w := wordsOf(l)
		stamps := ids(by(sectionTime, sectionR))
		for _, x := range w.secs {
			stamps = append(stamps, x.id)
		}
		for _, s := range stamps {
			n := max(1, len(w.seen[s])+1)
			for _, c := range []call{{r: r, t: time, k: k, many: many}, {r: r % 8, t: w.top, k: (k%n + n) % n, many: (many%n + n) % n}} {
				for _, kind := range []byte("idsm") {
					c.kind, c.l, c.s, c.text = kind, in, s, text
					if answers(t, c, w) && c.promised(w) {
						follows(t, c)
					}
				}
			}
		}
		if !m.same(was) {
			t.Fatalf("%v is turned", brief(l))
		}
	})
}
