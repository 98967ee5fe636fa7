package anchor

import (
	"math"
	"slices"
	"testing"

	"octavo/api"
	"octavo/bag"
	"octavo/edit"
	"octavo/home"
	"octavo/op"
	"octavo/view"
)

// run is so many stamps by r from t on.
func run(t uint32, r uint8, many int) api.Run {
	return api.Run{T: t, R: r, Many: many}
}

// at is a place of some runs.
func at(l ...api.Run) []api.Run {
	return l
}

// by is a stamp.
func by(t uint32, r uint8) api.Id {
	return api.Id{T: t, R: r}
}

// of is a bag of some operations.
func of(l ...api.Op) []api.Op {
	return l
}

// ids is some stamps.
func ids(l ...api.Id) []api.Id {
	return l
}

// first is the first section.
var first = api.Id{}

// endOf is the last stamp of a place; the zero one, if it has none.
func endOf(p []api.Run) api.Id {
	if len(p) == 0 {
		return first
	}
	r := p[len(p)-1]
	return by(r.T+uint32(r.Many)-1, r.R)
}

// letter is an insert of a code point.
func letter(n int, p ...api.Run) api.Op {
	return api.Op{Kind: 1, Id: endOf(p), At: p, Point: n}
}

func mark(p ...api.Run) api.Op {
	return api.Op{Kind: 2, Id: endOf(p), At: p}
}

func without(t uint32, r uint8, p ...api.Run) api.Op {
	return api.Op{Kind: 3, Id: by(t, r), At: p}
}

func join(t uint32, r uint8, p ...api.Run) api.Op {
	return api.Op{Kind: 4, Id: by(t, r), At: p}
}

// before is whether one stamp is less than another one, by the words of chapter 5.
func before(a, b api.Id) bool {
	return a.T < b.T || a.T == b.T && a.R < b.R
}

// byStamps puts operations in the order of their stamps.
func byStamps(l ...api.Op) []api.Op {
	slices.SortFunc(l, func(a, b api.Op) int {
		switch {
		case before(a.Id, b.Id):
			return -1
		case before(b.Id, a.Id):
			return 1
		}
		return 0
	})
	return l
}

// stampsOf is the stamps of a place that may be.
func stampsOf(p []api.Run) []api.Id {
	var l []api.Id
	for _, r := range p {
		for n := range r.Many {
			l = append(l, by(r.T+uint32(n), r.R))
		}
	}
	return l
}

// ahead is whether one place is ahead of another one, by the words of chapter 6, of their stamps.
func ahead(a, b []api.Id) bool {
	for i := range min(len(a), len(b)) {
		if a[i] != b[i] {
			return before(b[i], a[i])
		}
	}
	return len(a) < len(b)
}

// placeMayBe is whether a place may be, by the words of chapter 6.
func placeMayBe(p []api.Run) bool {
	many, end := 0, first
	for i, r := range p {
		if r.R > 7 || r.T < 1 || r.Many < 1 || r.Many > 4096 || int(r.T)+r.Many-1 > 1<<30 {
			return false
		}
		if i > 0 && (r.T <= end.T || by(r.T-1, r.R) == end) {
			return false
		}
		many, end = many+r.Many, endOf(p[:i+1])
	}
	return len(p) >= 1 && len(p) <= 64 && many <= 4096
}

// under is the place of a child, by the words of chapter 6, whether it may be or not.
func under(p []api.Run, id api.Id) []api.Run {
	q := slices.Clone(p)
	if end := len(q) - 1; end >= 0 && endOf(q) == by(id.T-1, id.R) {
		q[end].Many++
		return q
	}
	return append(q, run(id.T, id.R, 1))
}

// parent is a place without its last stamp.
func parent(p []api.Run) []api.Run {
	q := slices.Clone(p)
	end := len(q) - 1
	if end < 0 || q[end].Many == 1 {
		return q[:max(0, end)]
	}
	q[end].Many--
	return q
}

// mayBe is what bags that may be are, by the words of chapter 11.
func mayBe(l []api.Op) bool {
	for i, o := range l {
		if op.Check(o) != api.OK || i > 0 && !before(l[i-1].Id, o.Id) {
			return false
		}
	}
	return len(l) <= 1024
}

// inOrder is a section by the words of chapter 13: its name, and the stamps of where it begins.
type inOrder struct {
	id   api.Id
	from []api.Id
}

// sectionsInWords is the sections of a bag that may be, in order.
func sectionsInWords(l []api.Op) []inOrder {
	gone := map[api.Id]int{}
	for _, o := range l {
		if o.Kind == 4 {
			gone[endOf(o.At)]++
		}
	}
	out := []inOrder{{}}
	for _, o := range l {
		if o.Kind != 2 || gone[o.Id] > 0 {
			continue
		}
		s := inOrder{o.Id, stampsOf(o.At)}
		i := 1
		for i < len(out) && ahead(out[i].from, s.from) {
			i++
		}
		out = slices.Insert(out, i, s)
	}
	return out
}

// homeInWords is the home of a place, by its stamps: that of the last section that is not behind it.
func homeInWords(secs []inOrder, p []api.Id) api.Id {
	for _, s := range slices.Backward(secs) {
		if !ahead(p, s.from) {
			return s.id
		}
	}
	return first
}

// counted is content that counts, by the words of chapter 14: its home, and the stamps of its place.
type counted struct {
	op   api.Op
	home api.Id
	all  []api.Id
}

// countsInWords is all content of a bag that counts.
func countsInWords(l []api.Op, secs []inOrder) []counted {
	held := map[api.Id]int{}
	for _, o := range l {
		held[o.Id]++
	}
	var out []counted
content:
	for _, o := range l {
		if o.Kind%2 == 0 {
			continue
		}
		c := counted{op: o, all: stampsOf(o.At)}
		c.home = homeInWords(secs, c.all)
		for i, id := range c.all {
			if held[id] == 0 && homeInWords(secs, c.all[:i+1]) == c.home {
				continue content
			}
		}
		out = append(out, c)
	}
	return out
}

// words is what chapters 13 to 15 say of a bag: its sections, and what is seen of each, in order.
type words struct {
	bad  bool
	secs []inOrder
	seen map[api.Id][]counted
}

// wordsOf is what has to be said of a bag.
func wordsOf(l []api.Op) words {
	if !mayBe(l) {
		return words{bad: true}
	}
	w := words{secs: sectionsInWords(l), seen: map[api.Id][]counted{}}
	content := countsInWords(l, w.secs)
	type end struct{ home, last api.Id }
	away := map[end]int{}
	for _, c := range content {
		if c.op.Kind == 3 {
			away[end{c.home, endOf(c.op.At)}]++
		}
	}
	for _, c := range content {
		if c.op.Kind == 1 && away[end{c.home, c.op.Id}] == 0 {
			w.seen[c.home] = append(w.seen[c.home], c)
		}
	}
	for _, l := range w.seen {
		slices.SortFunc(l, func(a, b counted) int {
			if ahead(a.all, b.all) {
				return -1
			}
			return 1
		})
	}
	return w
}

// madeInWords is what Make has to answer, by the words of chapter 17.
func (w words) madeInWords(s api.Id, k int) ([]api.Run, api.Errno) {
	switch {
	case w.bad:
		return nil, api.ErrBad
	case !slices.ContainsFunc(w.secs, func(x inOrder) bool { return x.id == s }):
		return nil, api.ErrSection
	case k < 0 || k >= len(w.seen[s]):
		return nil, api.ErrArg
	}
	return w.seen[s][k].op.At, api.OK
}

// where is what Find answers of a place.
type where struct {
	s api.Id
	k int
	e api.Errno
}

// whereIs is what Find answers.
func whereIs(l []api.Op, p []api.Run) where {
	s, k, e := Find(l, p)
	return where{s, k, e}
}

// foundInWords is what Find has to answer, by the words of chapter 17.
func (w words) foundInWords(p []api.Run) where {
	if w.bad || !placeMayBe(p) {
		return where{e: api.ErrBad}
	}
	all := stampsOf(p)
	x := where{s: homeInWords(w.secs, all)}
	for _, c := range w.seen[x.s] {
		if ahead(c.all, all) {
			x.k++
		}
	}
	return x
}

// same is whether two places are.
func same(a, b []api.Run) bool {
	return slices.Equal(a, b)
}

// sameOps is whether two bags are the same.
func sameOps(a, b []api.Op) bool {
	return slices.EqualFunc(a, b, func(x, y api.Op) bool {
		return x.Kind == y.Kind && x.Id == y.Id && x.Point == y.Point && same(x.At, y.At)
	})
}

// brief is as much of some operations as is short enough to be told.
func brief(l []api.Op) []api.Op {
	l = slices.Clone(l[:min(len(l), 16)])
	for i, o := range l {
		l[i].At = short(o.At)
	}
	return l
}

// short is as much of a place as is short enough to be told.
func short(p []api.Run) []api.Run {
	return p[:min(len(p), 5)]
}

// makes asks whether Make answers what it has to.
func makes(t *testing.T, l []api.Op, w words, s api.Id, k int) {
	t.Helper()
	want, refusal := w.madeInWords(s, k)
	if got, e := Make(l, s, k); !same(got, want) || e != refusal {
		t.Fatalf("Make(%d, %v, in %v, %d): %v, %d; want %v, %d", len(l), brief(l), s, k, short(got), e, short(want), refusal)
	}
}

// finds asks whether Find answers what it has to.
func finds(t *testing.T, l []api.Op, w words, p []api.Run) {
	t.Helper()
	want := w.foundInWords(p)
	if got := whereIs(l, p); got != want {
		t.Fatalf("Find(%d, %v, of %v): %v; want %v", len(l), brief(l), short(p), got, want)
	}
}

// indices is those at the edges of a list, and all of a short one.
func indices(n int) []int {
	l := []int{math.MinInt, -2, -1, n, n + 1, math.MaxInt}
	for k := range n {
		if n <= 4 || k < 2 || k >= n-2 || k == n/2 {
			l = append(l, k)
		}
	}
	return l
}

// manyRuns is a place of so many runs.
func manyRuns(n int) []api.Run {
	var p []api.Run
	for i := range n {
		p = append(p, run(uint32(i+1), uint8(i%2), 1))
	}
	return p
}

// badPlaces is places that may not be, the beginning among them.
func badPlaces() [][]api.Run {
	return [][]api.Run{
		nil, at(), at(api.Run{}), at(run(0, 0, 1)), at(run(1, 8, 1)), at(run(1, 255, 1)), at(run(1, 0, 0)), at(run(1, 0, -1)), at(run(1, 0, 4097)), at(run(1<<30, 0, 2)), at(run(1<<30+1, 0, 1)),
		at(run(1, 0, 1), run(2, 0, 1)), at(run(1, 0, 1), run(1, 1, 1)), at(run(5, 0, 1), run(4, 1, 1)), at(run(1, 0, 4096), run(5000, 1, 1)), manyRuns(65),
		at(run(1, 0, math.MaxInt)), at(run(1, 0, math.MinInt)), at(run(math.MaxUint32, 0, 1)), at(run(math.MaxUint32, 255, math.MaxInt)), make([]api.Run, 1<<14), slices.Repeat(at(run(1, 0, 1)), 1<<14),
	}
}

// sample is a bag's operations; of a long one those at its ends, and some between.
func sample(l []api.Op) []api.Op {
	var out []api.Op
	for i, o := range l {
		if len(l) <= 12 || i < 4 || i >= len(l)-4 || i%(len(l)/6) == 0 {
			out = append(out, o)
		}
	}
	return out
}

// placesAbout is places that may not be, those of some operations, of their parents, of the ones that end with their stamps, right ahead of them, right behind them, and some about them.
func placesAbout(l []api.Op) [][]api.Run {
	out := append(badPlaces()[:5], at(run(1, 0, 1)), at(run(1<<30, 7, 1)))
	for _, o := range l {
		p, end := parent(o.At), endOf(o.At)
		younger := under(p, by(end.T+1, 6))
		out = append(out, o.At, p, under(o.At, o.Id), younger, under(younger, by(end.T+3, 5)), under(p, by(end.T, end.R+1)), under(p, by(1<<30, 7)))
		out = append(out, under(p, by(end.T, end.R-1)), under(p, by(end.T-1, 7)), under(p, by(endOf(p).T+1, 0)))
		out = append(out, under(o.At, by(1<<30, 7)), under(o.At, by(end.T+1, 0)), under(o.At, by(end.T+1, end.R)), under(under(o.At, by(end.T+1, 4)), by(end.T+2, 4)))
	}
	return out
}

// stampsAbout is stamps of the edges, of a bag's operations, of the places in it, and some beside them; each of its marks is among them.
func stampsAbout(l []api.Op) []api.Id {
	out := ids(first, by(0, 1), by(0, 255), by(1, 0), by(1, 8), by(1<<30, 0), by(1<<30+1, 0), by(math.MaxUint32, 255))
	for i, o := range l {
		if o.Kind == 2 || len(l) <= 12 || i < 4 || i >= len(l)-4 {
			out = append(out, o.Id, endOf(o.At), endOf(parent(o.At)), by(o.Id.T, o.Id.R+8), by(o.Id.T+1, o.Id.R), by(o.Id.T, o.Id.R^1))
		}
	}
	slices.SortFunc(out, func(a, b api.Id) int {
		if before(a, b) {
			return -1
		}
		return 1
	})
	return slices.Compact(out)
}

// asks asks both calls of a bag, of some stamps, with indices of the edges, and of some places.
func asks(t *testing.T, l []api.Op, stamps []api.Id, places [][]api.Run) {
	t.Helper()
	w := wordsOf(l)
	for _, s := range stamps {
		for _, k := range indices(len(w.seen[s])) {
			makes(t, l, w, s, k)
		}
	}
	for _, p := range places {
		finds(t, l, w, p)
	}
}

// asksAbout asks both calls of what stands in a bag, and about it.
func asksAbout(t *testing.T, l []api.Op) {
	t.Helper()
	asks(t, l, stampsAbout(l), placesAbout(sample(l)))
}

// dice are numbers that look like chance, and are the same each time.
type dice struct {
	n uint32
}

func (d *dice) under(n int) int {
	d.n = d.n*1664525 + 1013904223
	return int(d.n>>8) % n
}

// next is a stamp behind one: of the same time, the next one, or later.
func (d *dice) next(id api.Id) api.Id {
	switch d.under(6) {
	case 0:
		return by(id.T+1, id.R)
	case 1:
		if id.R < 7 {
			return by(id.T, id.R+1)
		}
	}
	return by(id.T+1+uint32(d.under(4)/3), uint8(d.under(4)))
}

// shuffled is some operations in an order by chance.
func (d *dice) shuffled(l []api.Op) []api.Op {
	l = slices.Clone(l)
	for i := range l {
		j := d.under(i + 1)
		l[i], l[j] = l[j], l[i]
	}
	return l
}

// grown is a bag of so many operations: elements under others, and what takes elements away; kinds tells how the kinds are shared out.
func grown(n int, seed uint32, kinds string) []api.Op {
	d := &dice{seed}
	var l []api.Op
	places := [][]api.Run{nil}
	id := by(3, 0)
	for range n {
		id = d.next(id)
		p := places[d.under(len(places))]
		if d.under(2) > 0 {
			p = places[max(0, len(places)-1-d.under(4))]
		}
		if endOf(p).T >= id.T || len(p) > 60 {
			p = nil
		}
		goal := p
		if len(goal) == 0 {
			goal = at(run(uint32(1+d.under(2)), uint8(d.under(8)), 1))
		}
		switch kinds[d.under(len(kinds))] {
		case 'i':
			l = append(l, letter(97+d.under(26), under(p, id)...))
		case 'm':
			l = append(l, mark(under(p, id)...))
		case 'd':
			l = append(l, without(id.T, id.R, goal...))
		case 'j':
			l = append(l, join(id.T, id.R, goal...))
		}
		if o := l[len(l)-1]; o.Kind < 3 {
			places = append(places, o.At)
		}
	}
	return l
}

// holed is a bag without some of its operations, one of so many.
func holed(l []api.Op, one int, seed uint32) []api.Op {
	d := &dice{seed}
	var left []api.Op
	for _, o := range l {
		if d.under(one) > 0 {
			left = append(left, o)
		}
	}
	return left
}

// some is bags of many lengths and kinds, whole ones and such with holes.
func some() [][]api.Op {
	l := [][]api.Op{nil, of()}
	for i, kinds := range []string{"i", "id", "m", "im", "imdj", "iiid", "iiiidddmj", "iimmj", "iiiiiiiimdj", "mj"} {
		for k, n := range []int{1, 2, 3, 5, 8, 13, 21, 40} {
			for turn := range 3 {
				seed := uint32(i*1000 + k*100 + turn)
				all := grown(n, seed, kinds)
				if turn > 0 {
					all = holed(all, 4*turn, seed)
				}
				l = append(l, all)
			}
		}
	}
	return l
}

// mixed is a bag whose places are made of few stamps by chance, so that many a stamp is that of another thing than the element that a place tells.
func mixed(d *dice) []api.Op {
	var l []api.Op
	for time := range uint32(9) {
		for r := range uint8(2) {
			id := by(time+2, r)
			var p []api.Run
			for t := range time + 1 {
				if d.under(3) == 0 {
					p = under(p, by(t+1, uint8(d.under(2))))
				}
			}
			o := api.Op{Kind: uint8(1 + d.under(4)), Id: id, At: p}
			switch o.Kind {
			case 1:
				o = letter(97+d.under(26), under(p, id)...)
			case 2:
				o.At = under(p, id)
			}
			if op.Check(o) == api.OK && d.under(4) > 0 {
				l = append(l, o)
			}
		}
	}
	return l
}

// alone is so many operations of one kind, or of some in turn, side by side, the last one ahead of all.
func alone(n int, kinds string) []api.Op {
	var l []api.Op
	for i := range n {
		t := uint32(2*i + 10)
		switch kinds[i%len(kinds)] {
		case 'i':
			l = append(l, letter(97, run(t, 1, 1)))
		case 'm':
			l = append(l, mark(run(t, 1, 1)))
		case 'd':
			l = append(l, without(t, 1, run(t-2, 1, 1)))
		case 'j':
			l = append(l, join(t, 1, run(t-2, 1, 1)))
		}
	}
	return l
}

// chain is inserts one under another one, in one run from t on.
func chain(t uint32, n int) []api.Op {
	var l []api.Op
	for i := range n {
		l = append(l, letter('a'+i%26, run(t, 0, i+1)))
	}
	return l
}

// The elements of what is known, in their order: Y, A, B under it, M under B, U under M, C under B (elder than M), D under C.
var (
	opA = letter('A', run(1, 0, 1))
	opB = letter('B', run(1, 0, 2))
	opC = letter('C', run(1, 0, 3))
	opD = letter('D', run(1, 0, 4))
	opM = mark(run(1, 0, 2), run(5, 1, 1))
	opU = letter('U', run(1, 0, 2), run(5, 1, 1), run(6, 0, 1))
	opY = letter('Y', run(7, 2, 1))
)

// knownBag shows YAB of the first section, UCD behind M.
func knownBag() []api.Op {
	return byStamps(opA, opB, opC, opD, opM, opU, opY)
}

// P17.1: the chapter's own examples.
func TestExamples(t *testing.T) {
	a, b := letter('A', run(1, 0, 1)), letter('B', run(1, 0, 2))
	d := without(10, 1, a.At...)
	if p, e := Make(of(a, b), first, 1); !same(p, at(run(1, 0, 2))) || e != api.OK {
		t.Errorf("Make(A B, 0, 1): %v, %d", p, e)
	}
	if p, e := Make(of(a, b), first, 2); p != nil || e != api.ErrArg {
		t.Errorf("Make(A B, 0, 2): %v, %d", p, e)
	}
	for what, x := range map[string]struct {
		l    []api.Op
		p    []api.Run
		want where
	}{
		"A B, B's":           {of(a, b), b.At, where{first, 1, api.OK}},
		"A B D, B's":         {of(a, b, d), b.At, where{first, 0, api.OK}},
		"A B D, A's":         {of(a, b, d), a.At, where{first, 0, api.OK}},
		"A, 1.0*2":           {of(a), at(run(1, 0, 2)), where{first, 1, api.OK}},
		"A B, the beginning": {of(a, b), nil, where{first, 0, api.ErrBad}},
	} {
		if got := whereIs(x.l, x.p); got != x.want {
			t.Errorf("Find(%s): %v; want %v", what, got, x.want)
		}
	}
}

// P17.1, Make: sections and indices, what is seen there, and what is none.
func TestMakes(t *testing.T) {
	n := mark(run(2, 3, 1))
	j, dA, dU := join(13, 0, opM.At...), without(8, 3, opA.At...), without(9, 3, opU.At...)
	whole := knownBag()
	gone := append(knownBag(), dA, dU)                                        // YB, CD
	joined := append(knownBag(), j)                                           // YABUCD
	lacking := byStamps(opA, opC, opD, opM, opU, opY)                         // YA, UCD
	joinedLacking := byStamps(opA, opC, opD, opM, opU, j)                     // A
	more := byStamps(opA, opB, opC, opM, n, opU, without(7, 0, opA.At...), j) // none, BUC
	none := api.Op{}
	for what, x := range map[string]struct {
		l    []api.Op
		s    api.Id
		k    int
		want api.Op
		e    api.Errno
	}{
		"the first one":                         {whole, first, 0, opY, api.OK},
		"the second one":                        {whole, first, 1, opA, api.OK},
		"the last one":                          {whole, first, 2, opB, api.OK},
		"as many as are seen":                   {whole, first, 3, none, api.ErrArg},
		"one more":                              {whole, first, 4, none, api.ErrArg},
		"as many as are seen of all":            {whole, first, 6, none, api.ErrArg},
		"the greatest":                          {whole, first, math.MaxInt, none, api.ErrArg},
		"2^32":                                  {whole, first, 1 << 32, none, api.ErrArg},
		"the one ahead of the first":            {whole, first, -1, none, api.ErrArg},
		"the least":                             {whole, first, math.MinInt, none, api.ErrArg},
		"the first behind a mark":               {whole, opM.Id, 0, opU, api.OK},
		"the second behind a mark":              {whole, opM.Id, 1, opC, api.OK},
		"the last behind a mark":                {whole, opM.Id, 2, opD, api.OK},
		"as many as are seen behind a mark":     {whole, opM.Id, 3, none, api.ErrArg},
		"ahead of the first behind a mark":      {whole, opM.Id, -1, none, api.ErrArg},
		"the first one that is left":            {gone, first, 0, opY, api.OK},
		"the last one that is left":             {gone, first, 1, opB, api.OK},
		"as many as are left":                   {gone, first, 2, none, api.ErrArg},
		"the first that is left behind a mark":  {gone, opM.Id, 0, opC, api.OK},
		"as many as are left behind a mark":     {gone, opM.Id, 2, none, api.ErrArg},
		"behind a mark that is joined":          {joined, first, 3, opU, api.OK},
		"the last behind a mark that is joined": {joined, first, 5, opD, api.OK},
		"of a mark that is joined":              {joined, opM.Id, 0, none, api.ErrSection},
		"ahead of a mark, one not there":        {lacking, first, 1, opA, api.OK},
		"ahead of a mark, the one not there":    {lacking, first, 2, none, api.ErrArg},
		"behind a mark, one ahead not there":    {lacking, opM.Id, 1, opC, api.OK},
		"what lacks one behind a join":          {joinedLacking, first, 1, none, api.ErrArg},
		"what stands ahead of that":             {joinedLacking, first, 0, opA, api.OK},
		"of what lacks one, alone":              {of(opB, opC), first, 0, none, api.ErrArg},
		"of none":                               {nil, first, 0, none, api.ErrArg},
		"of none that is no nil":                {of(), first, 0, none, api.ErrArg},
		"ahead of none":                         {nil, first, -1, none, api.ErrArg},
		"of one":                                {of(opA), first, 0, opA, api.OK},
		"behind one":                            {of(opA), first, 1, none, api.ErrArg},
		"of what is all taken away":             {of(opA, dA), first, 0, none, api.ErrArg},
		"of a mark alone":                       {of(opM), opM.Id, 0, none, api.ErrArg},
		"of a mark alone, ahead of it":          {of(opM), first, 0, none, api.ErrArg},
		"of marks and joins alone":              {of(n, opM, j), n.Id, 0, none, api.ErrArg},
		"of marks and joins alone, joined":      {of(n, opM, j), opM.Id, 0, none, api.ErrSection},
		"of a join alone":                       {of(j), first, 0, none, api.ErrArg},
		"the first section shows nothing":       {more, first, 0, none, api.ErrArg},
		"the last section, the first one":       {more, n.Id, 0, opB, api.OK},
		"the last section, the last one":        {more, n.Id, 2, opC, api.OK},
		"the last section, behind all":          {more, n.Id, 3, none, api.ErrArg},
		"an insert's stamp":                     {whole, opA.Id, 0, none, api.ErrSection},
		"the stamp of an insert under a mark":   {whole, opU.Id, 0, none, api.ErrSection},
		"a delete's stamp":                      {gone, dA.Id, 0, none, api.ErrSection},
		"a join's stamp":                        {joined, j.Id, 0, none, api.ErrSection},
		"nothing's stamp":                       {whole, by(4, 4), 0, none, api.ErrSection},
		"a mark's time, another replica":        {whole, by(5, 2), 0, none, api.ErrSection},
		"a mark's replica and eight":            {whole, by(5, 9), 0, none, api.ErrSection},
		"a mark's replica, another time":        {whole, by(4, 1), 0, none, api.ErrSection},
		"a mark's time and 2^31":                {whole, by(1<<31+5, 1), 0, none, api.ErrSection},
		"no time, a replica":                    {whole, by(0, 1), 0, none, api.ErrSection},
		"the greatest stamp":                    {whole, by(math.MaxUint32, 255), 0, none, api.ErrSection},
	} {
		p, e := Make(x.l, x.s, x.k)
		if !same(p, x.want.At) || e != x.e {
			t.Errorf("%s: Make(.., %v, %d): %v, %d; want %v, %d", what, x.s, x.k, p, e, x.want.At, x.e)
		}
		if !mayBe(x.l) {
			t.Errorf("%s: the bag may not be", what)
		}
		makes(t, x.l, wordsOf(x.l), x.s, x.k)
	}
}

// P17.1, Find: places of what is seen, was taken away, lacks one, of marks, of deletes, of nothing there; ahead of all, between two, behind all that is seen of their home.
func TestFinds(t *testing.T) {
	dB, dC := without(8, 3, opB.At...), without(9, 3, opC.At...)
	whole := byStamps(opA, opB, opC, opD, opU, opY, dB) // YACD: U lacks M
	cut := append(knownBag(), dB, dC)                   // YA, UD
	joined := append(slices.Clone(cut), join(13, 0, opM.At...))
	for what, x := range map[string]struct {
		l []api.Op
		p []api.Run
		s api.Id
		k int
	}{
		"the first one":                         {whole, opY.At, first, 0},
		"ahead of all that is seen":             {whole, at(run(7, 3, 1)), first, 0},
		"the youngest of all":                   {whole, at(run(1<<30, 7, 1)), first, 0},
		"under the youngest of all, ahead":      {whole, at(run(8, 0, 1), run(1<<30, 7, 1)), first, 0},
		"right behind the first one":            {whole, at(run(7, 2, 1), run(1<<30, 7, 1)), first, 1},
		"between the first and the second":      {whole, at(run(7, 1, 1)), first, 1},
		"the second one":                        {whole, opA.At, first, 1},
		"right behind the second one":           {whole, at(run(1, 0, 1), run(1<<30, 7, 1)), first, 2},
		"what was taken away":                   {whole, opB.At, first, 2},
		"right behind that":                     {whole, at(run(1, 0, 2), run(1<<30, 7, 1)), first, 2},
		"what lacks one":                        {whole, opU.At, first, 2},
		"what is not there":                     {whole, opM.At, first, 2},
		"right ahead of the third one":          {whole, at(run(1, 0, 2), run(3, 1, 1)), first, 2},
		"the third one":                         {whole, opC.At, first, 2},
		"right behind the third one":            {whole, at(run(1, 0, 3), run(4, 1, 1)), first, 3},
		"the last one":                          {whole, opD.At, first, 3},
		"behind all that is seen":               {whole, at(run(1, 0, 5)), first, 4},
		"behind all, elder":                     {whole, at(run(1, 0, 4), run(5, 7, 1)), first, 4},
		"the deepest of all":                    {whole, at(run(1, 0, 4096)), first, 4},
		"what ends with a delete's stamp":       {whole, at(run(1, 0, 2), run(8, 3, 1)), first, 2},
		"a delete's stamp alone":                {whole, at(run(8, 3, 1)), first, 0},
		"of none":                               {nil, opA.At, first, 0},
		"of none that is no nil":                {of(), at(run(1<<30, 7, 1)), first, 0},
		"of what is all taken away":             {of(opA, without(9, 0, opA.At...)), opA.At, first, 0},
		"behind what is all taken away":         {of(opA, without(9, 0, opA.At...)), opB.At, first, 0},
		"of what lacks one":                     {of(opB), opB.At, first, 0},
		"behind what lacks one":                 {of(opB), opC.At, first, 0},
		"of what lacks one, of what it lacks":   {of(opB), opA.At, first, 0},
		"of a delete alone":                     {of(dB), opB.At, first, 0},
		"of a join alone":                       {of(join(9, 0, opM.At...)), opM.At, first, 0},
		"the first one of two":                  {of(opA, opB), opA.At, first, 0},
		"the last one of two":                   {of(opA, opB), opB.At, first, 1},
		"ahead of a mark, the first one":        {cut, opY.At, first, 0},
		"ahead of a mark, the last one":         {cut, opA.At, first, 1},
		"ahead of a mark, what was taken away":  {cut, opB.At, first, 2},
		"right ahead of a mark":                 {cut, at(run(1, 0, 2), run(5, 2, 1)), first, 2},
		"behind a mark, the first one":          {cut, opU.At, opM.Id, 0},
		"behind a mark, ahead of the first one": {cut, under(opM.At, by(7, 0)), opM.Id, 0},
		"behind a mark, behind the first one":   {cut, under(opU.At, by(7, 0)), opM.Id, 1},
		"behind a mark, what was taken away":    {cut, opC.At, opM.Id, 1},
		"behind a mark, the last one":           {cut, opD.At, opM.Id, 1},
		"behind a mark, behind all":             {cut, at(run(1, 0, 5)), opM.Id, 2},
		"behind a mark, what ends with a join":  {cut, under(opM.At, by(13, 0)), opM.Id, 0},
		"joined, the first one":                 {joined, opY.At, first, 0},
		"joined, the mark's":                    {joined, opM.At, first, 2},
		"joined, ahead of the mark":             {joined, opB.At, first, 2},
		"joined, the first one behind the mark": {joined, opU.At, first, 2},
		"joined, what was taken away":           {joined, opC.At, first, 3},
		"joined, the last one":                  {joined, opD.At, first, 3},
		"joined, behind all":                    {joined, at(run(1, 0, 5)), first, 4},
	} {
		if got := whereIs(x.l, x.p); got != (where{x.s, x.k, api.OK}) {
			t.Errorf("%s: Find(.., %v): %v; want %v, %d", what, x.p, got, x.s, x.k)
		}
		if !mayBe(x.l) {
			t.Errorf("%s: the bag may not be", what)
		}
		finds(t, x.l, wordsOf(x.l), x.p)
	}
}

// P17.1, Find: places just where a section begins, and one stamp ahead and behind: of the last one, of one between, of marks side by side and one under another one.
func TestFindsWhereSectionsBegin(t *testing.T) {
	last := mark(run(1, 0, 3), run(9, 0, 1)) // between C and D
	beside := mark(run(1, 0, 2), run(6, 5, 1))
	below := mark(run(1, 0, 2), run(5, 1, 2))
	m := opM.At
	for what, x := range map[string]struct {
		more []api.Op
		p    []api.Run
		s    api.Id
		k    int
	}{
		"the mark's":                                {nil, m, opM.Id, 0},
		"the mark's parent":                         {nil, opB.At, first, 2},
		"a younger one beside it":                   {nil, at(run(1, 0, 2), run(5, 2, 1)), first, 3},
		"one that is one time younger":              {nil, at(run(1, 0, 2), run(6, 1, 1)), first, 3},
		"what stands under that":                    {nil, at(run(1, 0, 2), run(6, 1, 2)), first, 3},
		"the youngest one under it":                 {nil, under(m, by(1<<30, 7)), opM.Id, 0},
		"one under it":                              {nil, under(m, by(6, 1)), opM.Id, 0},
		"the first one that is seen under it":       {nil, under(m, by(6, 0)), opM.Id, 0},
		"one under it, elder than what is seen":     {of(letter('v', run(1, 0, 2), run(5, 1, 1), run(8, 0, 1))), under(m, by(7, 0)), opM.Id, 1},
		"an elder one beside it":                    {nil, at(run(1, 0, 2), run(5, 0, 1)), opM.Id, 1},
		"one that is one time elder":                {nil, at(run(1, 0, 2), run(4, 1, 1)), opM.Id, 1},
		"of two, the last one's":                    {of(last), last.At, last.Id, 0},
		"of two, the last one's parent":             {of(last), opC.At, opM.Id, 1},
		"of two, younger beside the last one":       {of(last), at(run(1, 0, 3), run(9, 1, 1)), opM.Id, 2},
		"of two, under the last one":                {of(last), at(run(1, 0, 3), run(9, 0, 2)), last.Id, 0},
		"of two, elder beside the last one":         {of(last), at(run(1, 0, 3), run(8, 7, 1)), last.Id, 0},
		"of two, behind all":                        {of(last), at(run(1, 0, 5)), last.Id, 1},
		"of two, the one's between":                 {of(last), m, opM.Id, 0},
		"of two, ahead of the one between":          {of(last), at(run(1, 0, 2), run(5, 2, 1)), first, 3},
		"of two side by side, the younger one's":    {of(beside), beside.At, beside.Id, 0},
		"of two side by side, under the younger":    {of(beside), under(beside.At, by(7, 0)), beside.Id, 0},
		"of two side by side, between them":         {of(beside), at(run(1, 0, 2), run(5, 2, 1)), beside.Id, 0},
		"of two side by side, the elder one's":      {of(beside), m, opM.Id, 0},
		"of two side by side, ahead of both":        {of(beside), at(run(1, 0, 2), run(6, 6, 1)), first, 3},
		"of one under another one, the upper one's": {of(below), m, opM.Id, 0},
		"of one under another one, the lower one's": {of(below), below.At, below.Id, 0},
		"of one under another one, between them":    {of(below), under(m, by(7, 0)), opM.Id, 0},
		"of one under another one, under the lower": {of(below), at(run(1, 0, 2), run(5, 1, 3)), below.Id, 0},
		"of one under another one, behind both":     {of(below), opU.At, below.Id, 0},
		"of one under another one, further behind":  {of(below), opC.At, below.Id, 1},
	} {
		l := byStamps(append(knownBag(), x.more...)...)
		if !mayBe(l) {
			t.Fatalf("%s: the bag may not be", what)
		}
		if got := whereIs(l, x.p); got != (where{x.s, x.k, api.OK}) {
			t.Errorf("%s: Find(.., %v): %v; want %v, %d", what, x.p, got, x.s, x.k)
		}
		finds(t, l, wordsOf(l), x.p)
	}
}

// P17.1, Find: homes that show nothing: the first one, one between, the last one, all of them.
func TestFindsInHomesThatShowNothing(t *testing.T) {
	last := mark(run(1, 0, 3), run(9, 0, 1))
	between := at(run(1, 0, 2), run(5, 1, 1), run(8, 0, 1))
	behind := at(run(1, 0, 5))
	gone := of(without(10, 0, opA.At...), without(11, 0, opB.At...), without(12, 0, opC.At...), without(13, 0, opD.At...))
	for what, x := range map[string]struct {
		l    []api.Op
		p    []api.Run
		s    api.Id
		k    int
		many []int // how many each section shows
	}{
		"the first one, nothing there":     {of(opC, opM, opU), opB.At, first, 0, []int{0, 2}},
		"the first one, all taken away":    {slices.Concat(of(opA, opB, opC, opM, opU), gone[:2]), opB.At, first, 0, []int{0, 2}},
		"the first one, lacking one":       {of(opB, opC, opM, opU), opB.At, first, 0, []int{0, 2}},
		"the first one, behind what lacks": {of(opB, opC, opM, opU), under(opB.At, by(6, 7)), first, 0, []int{0, 2}},
		"one between, nothing there":       {of(opA, opB, opD, opM, last), between, opM.Id, 0, []int{2, 0, 1}},
		"one between, lacking one":         {of(opA, opB, opM, letter('x', under(between, by(9, 5))...), last), opC.At, opM.Id, 0, []int{2, 0, 0}},
		"the last one, nothing there":      {of(opA, opB, opC, opM, opU, last), behind, last.Id, 0, []int{2, 2, 0}},
		"the last one, at its mark":        {of(opA, opB, opC, opM, opU, last), last.At, last.Id, 0, []int{2, 2, 0}},
		"the last one, all taken away":     {slices.Concat(of(opA, opB, opC, opD, opM, opU, last), gone[3:]), behind, last.Id, 0, []int{2, 2, 0}},
		"the last one, lacking one":        {of(opA, opB, opM, letter('z', run(1, 0, 5))), behind, opM.Id, 0, []int{2, 0}},
		"all of them":                      {of(opM, last), opC.At, opM.Id, 0, []int{0, 0, 0}},
		"all of them, the first one's":     {of(opM, last), opB.At, first, 0, []int{0, 0, 0}},
		"all of them, joined":              {of(opM, last, join(12, 0, opM.At...)), opC.At, first, 0, []int{0, 0}},
	} {
		l := byStamps(x.l...)
		w := wordsOf(l)
		var many []int
		for _, s := range w.secs {
			many = append(many, len(w.seen[s.id]))
		}
		if !slices.Equal(many, x.many) {
			t.Fatalf("%s: the sections show %v; want %v", what, many, x.many)
		}
		if got := whereIs(l, x.p); got != (where{x.s, x.k, api.OK}) {
			t.Errorf("%s: Find(.., %v): %v; want %v, %d", what, x.p, got, x.s, x.k)
		}
		finds(t, l, w, x.p)
		for _, s := range w.secs {
			if p, e := Make(l, s.id, len(w.seen[s.id])); p != nil || e != api.ErrArg {
				t.Errorf("%s: Make(.., %v, as many): %v, %d", what, s.id, p, e)
			}
		}
	}
}

// P1, P17.1, Find: places that may not be, the beginning among them, in bags that may be.
func TestFindRefusesPlaces(t *testing.T) {
	bags := [][]api.Op{nil, of(), of(opA), of(opM), of(opM, join(13, 0, opM.At...)), knownBag(), chain(1, 1024)}
	for _, l := range bags {
		for _, p := range append(badPlaces(), under(opM.At, by(4, 0)), under(opA.At, by(1, 0)), append(slices.Clone(opU.At), api.Run{})) {
			if placeMayBe(p) {
				t.Fatalf("%v may be", short(p))
			}
			if got := whereIs(l, p); got != (where{e: api.ErrBad}) {
				t.Errorf("Find(%d, %v, of %d, %v): %v; want ErrBad", len(l), brief(l), len(p), short(p), got)
			}
		}
	}
}

// bad is operations that may not be.
func bad() []api.Op {
	return []api.Op{
		{}, {Kind: 1, Id: by(9, 0)}, {Kind: 3, Id: by(9, 0), At: at()}, {Kind: 255, Id: by(math.MaxUint32, 255), Point: math.MinInt},
		{Kind: 0, Id: by(9, 0), At: at(run(9, 0, 1))}, {Kind: 5, Id: by(9, 0), At: at(run(9, 0, 1))}, {Kind: 129, Id: by(9, 0), At: at(run(9, 0, 1)), Point: 97},
		{Kind: 1, Id: by(9, 0), At: at(run(8, 0, 1)), Point: 97}, {Kind: 2, Id: by(9, 0), At: at(run(9, 0, 1)), Point: 1}, {Kind: 3, Id: by(9, 0), At: at(run(1, 0, 1)), Point: 97},
		letter(97, run(0, 0, 1)), letter(97, run(9, 8, 1)), letter(97, run(1<<30+1, 0, 1)), letter(97, run(9, 0, 0)), letter(97, run(9, 0, math.MaxInt)), letter(97, run(1, 0, 4097)), letter(97, run(8, 0, 1), run(9, 0, 1)),
		letter(0xd800, run(9, 0, 1)), letter(-1, run(9, 0, 1)), letter(0x110000, run(9, 0, 1)), without(9, 0, run(9, 0, 1)), join(9, 0, run(9, 0, 1)), without(9, 7, run(1, 0, 9)), without(9, 8, run(1, 0, 1)),
	}
}

// refused asks whether both calls refuse a bag, with stamps, indices and places of all kinds.
func refused(t *testing.T, what string, l []api.Op) {
	t.Helper()
	if mayBe(l) {
		t.Fatalf("%s may be: %v", what, brief(l))
	}
	for _, s := range ids(first, opM.Id, by(9, 0), by(3, 3), by(0, 1), by(math.MaxUint32, 255)) {
		for _, k := range []int{0, 1, -1, math.MinInt, math.MaxInt} {
			if p, e := Make(l, s, k); p != nil || e != api.ErrBad {
				t.Errorf("%s: Make(%v, in %v, %d): %v, %d; want ErrBad", what, brief(l), s, k, short(p), e)
			}
		}
	}
	for _, p := range append(badPlaces()[:6], opA.At, opM.At, opU.At, opY.At, at(run(1, 0, 5)), at(run(1<<30, 7, 1))) {
		if got := whereIs(l, p); got != (where{e: api.ErrBad}) {
			t.Errorf("%s: Find(%v, of %v): %v; want ErrBad", what, brief(l), short(p), got)
		}
	}
}

// P1, P17.1: bags that may not be are refused by each of the two calls, with stamps, indices and places that may not be, too.
func TestBothRefuseBags(t *testing.T) {
	d, j := without(8, 0, opA.At...), join(9, 1, opM.At...)
	back := grown(40, 6, "imdj")
	slices.Reverse(back)
	for what, l := range map[string][]api.Op{
		"two whose stamps fall":        of(opB, opA),
		"two that fall by the replica": of(letter(97, run(2, 1, 1)), letter(97, run(2, 0, 1))),
		"an insert twice":              of(opA, opA),
		"a delete ahead of its insert": of(d, opA),
		"a mark twice":                 of(opA, opM, opM),
		"an insert and a mark in one":  of(opA, mark(run(1, 0, 1)), opB),
		"one that falls at the end":    of(opA, opB, opM, d, j, opC),
		"one that falls at the front":  of(opD, opA, opB, opC, opM),
		"all in another order":         back,
		"very many":                    alone(1<<14, "imdj"),
		"very many of nothing":         make([]api.Op, 1<<14),
		"very many, all the same":      slices.Repeat(of(opA), 1<<14),
		"good ones, and a zero one":    of(opA, opB, opM, api.Op{}),
		"one more than may be":         chain(1, 1025),
	} {
		refused(t, what, l)
	}
	for _, o := range bad() {
		refused(t, "one that may not be", of(o))
		refused(t, "one that may not be ahead", of(o, opA, opM, opY, d, j))
		refused(t, "one that may not be in the middle", of(opA, opM, o, without(10, 0, opA.At...)))
		refused(t, "one that may not be at the end", of(opA, opM, opY, d, o))
	}
}

// P1: of two errors the one that is named first is answered, and nothing beside it.
func TestFirstErrorFirst(t *testing.T) {
	wrong := append(knownBag(), opA)
	noSection, noPlace := opA.Id, at(run(1, 8, 1))
	for what, x := range map[string]struct {
		l []api.Op
		s api.Id
		k int
		e api.Errno
	}{
		"a bag, a section and an index":  {wrong, noSection, -1, api.ErrBad},
		"a bag and a section":            {wrong, noSection, 0, api.ErrBad},
		"a bag and an index":             {wrong, opM.Id, 3, api.ErrBad},
		"a bag alone":                    {wrong, opM.Id, 2, api.ErrBad},
		"a section and an index":         {knownBag(), noSection, -1, api.ErrSection},
		"a section and too great a one":  {knownBag(), noSection, math.MaxInt, api.ErrSection},
		"a section alone":                {knownBag(), noSection, 0, api.ErrSection},
		"a section and an index of none": {nil, by(0, 255), 0, api.ErrSection},
		"an index alone":                 {knownBag(), opM.Id, 3, api.ErrArg},
	} {
		if p, e := Make(x.l, x.s, x.k); p != nil || e != x.e {
			t.Errorf("%s: Make: %v, %d; want none, %d", what, p, e, x.e)
		}
	}
	// D's place is found at 2 behind a mark, where all is well.
	for what, x := range map[string]struct {
		l []api.Op
		p []api.Run
	}{
		"a bag and a place":       {wrong, noPlace},
		"a bag and the beginning": {wrong, nil},
		"a bag alone":             {wrong, opD.At},
		"a place alone":           {knownBag(), noPlace},
		"the beginning alone":     {knownBag(), nil},
		"a place behind a mark":   {knownBag(), append(slices.Clone(opD.At), run(5, 0, 1))},
	} {
		if got := whereIs(x.l, x.p); got != (where{e: api.ErrBad}) {
			t.Errorf("%s: Find: %v; want ErrBad", what, got)
		}
	}
}

// several is operations of which all bags are asked: a chain, two marks in it, what stands under these, deletes, at another place too, a join of each mark.
func several() []api.Op {
	n := mark(run(1, 0, 1), run(3, 1, 1))
	return byStamps(opA, opB, n, letter('x', run(1, 0, 1), run(3, 1, 1), run(4, 0, 1)), opC, opM, opU, letter('y', run(6, 1, 1)),
		without(8, 0, opB.At...), without(9, 0, run(1, 0, 2), run(6, 1, 1)), join(10, 0, opM.At...), join(10, 1, n.At...))
}

// bagsOf is all bags of some operations.
func bagsOf(l []api.Op) [][]api.Op {
	var out [][]api.Op
	for which := range 1 << len(l) {
		var some []api.Op
		for i, o := range l {
			if which>>i&1 == 1 {
				some = append(some, o)
			}
		}
		out = append(out, some)
	}
	return out
}

// P17.1: all bags of few operations.
func TestTellsAllOfFew(t *testing.T) {
	whole := several()
	stamps := ids(first, opM.Id, by(3, 1), opA.Id, by(8, 0))
	places := [][]api.Run{nil, at(run(1, 8, 1)), at(run(1, 0, 4)), at(run(1, 0, 1), run(3, 0, 1))}
	for _, o := range whole {
		places = append(places, o.At)
	}
	for _, l := range bagsOf(whole) {
		asks(t, l, stamps, places)
	}
}

// P17.1: bags of many lengths and kinds, with holes.
func TestTellsAll(t *testing.T) {
	seen := 0
	for _, l := range some() {
		asksAbout(t, l)
		for _, x := range wordsOf(l).seen {
			seen += len(x)
		}
	}
	if seen < 800 {
		t.Errorf("%d are seen: too few to tell", seen)
	}
}

// P17.1: bags in which a stamp may be another thing's than the element that a place tells.
func TestMixedBags(t *testing.T) {
	d := &dice{1}
	for range 300 {
		asksAbout(t, mixed(d))
	}
}

// P17.1: bags of 1023 and of 1024 operations, of content alone, of marks and joins alone, of all.
func TestComesToMaxOps(t *testing.T) {
	for _, n := range []int{1023, 1024} {
		for _, l := range [][]api.Op{chain(1, n), alone(n, "i"), alone(n, "id"), alone(n, "m"), alone(n, "mj"), alone(n, "j"), alone(n, "d"), alone(n, "imdj"), grown(n, 3, "iiiiiiiiiiimdj")} {
			stamps := stampsAbout(l)
			places := placesAbout(of(l[0], l[n/3], l[n/2], l[n-1]))
			asks(t, l, slices.Concat(stamps[:10], stamps[len(stamps)-4:]), places)
		}
	}
	l := chain(1, 1024)
	for _, k := range []int{0, 1, 511, 1022, 1023} {
		p, e := Make(l, first, k)
		if !same(p, at(run(1, 0, k+1))) || e != api.OK {
			t.Errorf("Make(a chain of 1024, 0, %d): %v, %d", k, p, e)
		}
		if got := whereIs(l, p); got != (where{first, k, api.OK}) {
			t.Errorf("Find(a chain of 1024, %v): %v; want %d", p, got, k)
		}
	}
	if got := whereIs(l, at(run(1, 0, 1025))); got != (where{first, 1024, api.OK}) {
		t.Errorf("Find behind a chain of 1024: %v", got)
	}
}

// P17.1: places of the most stamps and of the most runs.
func TestLongPlaces(t *testing.T) {
	m := mark(run(1, 0, 4090))
	l := of(m)
	for n := 4091; n <= 4096; n++ {
		l = append(l, letter('a', run(1, 0, n)))
	}
	w := wordsOf(l)
	for k := range 7 {
		makes(t, l, w, m.Id, k)
		makes(t, l, w, first, k)
	}
	for _, p := range [][]api.Run{m.At, l[1].At, l[6].At, at(run(1, 0, 4089)), at(run(1, 0, 4097)), at(run(1, 0, 4095), run(4096, 1, 1)), at(run(1, 0, 4095), run(4097, 0, 1)), at(run(1, 0, 4090), run(4091, 1, 1))} {
		finds(t, l, w, p)
	}
	var runs []api.Op
	for i := range 64 {
		runs = append(runs, letter('a', manyRuns(i+1)...))
	}
	runs[31] = mark(runs[31].At...)
	w = wordsOf(runs)
	for _, o := range runs {
		finds(t, runs, w, o.At)
		finds(t, runs, w, under(o.At, by(1<<30, 7)))
	}
	for k := range 33 {
		makes(t, runs, w, first, k)
		makes(t, runs, w, runs[31].Id, k)
	}
}

// sectionsOf is the sections of a bag that may be.
func sectionsOf(t *testing.T, l []api.Op) []api.Id {
	t.Helper()
	secs, e := home.All(l)
	if e != api.OK {
		t.Fatalf("All(%v): %d", brief(l), e)
	}
	return secs
}

// seenOf is what is seen of a section of a bag.
func seenOf(t *testing.T, l []api.Op, s api.Id) []api.Element {
	t.Helper()
	seen, e := view.Elements(l, s)
	if e != api.OK {
		t.Fatalf("Elements(%v, in %v): %d", brief(l), s, e)
	}
	return seen
}

// promised is where an anchor has to be found, by the words of P17.3: where its element is seen; else at what is seen first behind it in its section, or at the end; and whether the element is seen.
func promised(t *testing.T, l []api.Op, p []api.Run) (where, bool) {
	t.Helper()
	for _, s := range sectionsOf(t, l) {
		if k := slices.IndexFunc(seenOf(t, l, s), func(x api.Element) bool { return same(x.At, p) }); k >= 0 {
			return where{s, k, api.OK}, true
		}
	}
	s, e := home.Of(l, p)
	if e != api.OK {
		t.Fatalf("Of(%v, %v): %d", brief(l), p, e)
	}
	seen := seenOf(t, l, s)
	k := slices.IndexFunc(seen, func(x api.Element) bool { return ahead(stampsOf(p), stampsOf(x.At)) })
	if k < 0 {
		k = len(seen)
	}
	return where{s, k, api.OK}, false
}

// isFound asks whether an anchor is found where it has to be, and tells whether its element is seen.
func isFound(t *testing.T, l []api.Op, p []api.Run) bool {
	t.Helper()
	want, seen := promised(t, l, p)
	if got := whereIs(l, p); got != want {
		t.Fatalf("Find(%d, %v, of %v): %v; want %v", len(l), brief(l), short(p), got, want)
	}
	return seen
}

// anchored is an anchor of each element that is seen in a bag, found at once.
func anchored(t *testing.T, l []api.Op) [][]api.Run {
	t.Helper()
	var out [][]api.Run
	for _, s := range sectionsOf(t, l) {
		for k, x := range seenOf(t, l, s) {
			p, e := Make(l, s, k)
			if !same(p, x.At) || e != api.OK {
				t.Fatalf("Make(%v, in %v, %d): %v, %d; want %v", brief(l), s, k, p, e, x.At)
			}
			if got := whereIs(l, p); got != (where{s, k, api.OK}) {
				t.Fatalf("Find(%v, of %v): %v; want %v, %d", brief(l), p, got, s, k)
			}
			out = append(out, p)
		}
	}
	return out
}

// putTo is a bag with one more operation.
func putTo(t *testing.T, l []api.Op, o api.Op) []api.Op {
	t.Helper()
	more, e := bag.Add(l, o)
	if e != api.OK {
		t.Fatalf("%v put to %v: %d", o, brief(l), e)
	}
	return more
}

// P17.3: what was anchored is found where it is, at once, in all bags of few operations and in many others.
func TestFoundAtOnce(t *testing.T) {
	bags := append(bagsOf(several()), some()...)
	d := &dice{9}
	for range 300 {
		bags = append(bags, mixed(d))
	}
	many := 0
	for _, l := range bags {
		many += len(anchored(t, l))
	}
	if many < 5000 {
		t.Errorf("%d are anchored: too few to tell", many)
	}
}

// orders is all orders of some operations.
func orders(l []api.Op) [][]api.Op {
	if len(l) == 0 {
		return [][]api.Op{nil}
	}
	var out [][]api.Op
	for i, o := range l {
		for _, rest := range orders(slices.Concat(l[:i], l[i+1:])) {
			out = append(out, append(of(o), rest...))
		}
	}
	return out
}

// P17.3: C of ABCD, anchored, and what comes more, in each order: inserts, deletes, marks, joins, ahead of it, at it and behind it.
func TestFoundBehindMore(t *testing.T) {
	m, n := opM, mark(run(1, 0, 1), run(9, 0, 1)) // right ahead of C, of B
	v := mark(run(1, 0, 3), run(9, 1, 1))         // right behind C
	dA, dC, dD := without(8, 3, opA.At...), without(8, 4, opC.At...), without(8, 5, opD.At...)
	jM := join(13, 0, m.At...)
	x := letter('x', run(1, 0, 2), run(7, 0, 1)) // right ahead of C, and of M
	for what, c := range map[string]struct {
		more []api.Op
		s    api.Id
		k    int
	}{
		"nothing":                                   {nil, first, 2},
		"an insert ahead of all":                    {of(opY), first, 3},
		"two inserts ahead of all":                  {of(opY, letter('y', run(7, 2, 2))), first, 4},
		"an insert right ahead":                     {of(x), first, 3},
		"an insert ahead, elder than what is there": {of(letter('y', run(1, 0, 1), run(2, 1, 1))), first, 3},
		"an insert right behind":                    {of(letter('y', run(1, 0, 3), run(9, 0, 1))), first, 2},
		"an insert behind all":                      {of(letter('y', run(1, 0, 5))), first, 2},
		"inserts on both sides":                     {of(x, letter('y', run(1, 0, 3), run(9, 0, 1))), first, 3},
		"an insert ahead that lacks one":            {of(opU), first, 2},
		"its delete":                                {of(dC), first, 2},
		"its delete twice":                          {of(dC, without(9, 3, opC.At...)), first, 2},
		"deletes of it and of what is behind":       {of(dC, dD), first, 2},
		"deletes of it and of what is ahead":        {of(dC, dA), first, 1},
		"a delete ahead":                            {of(dA), first, 1},
		"a delete behind":                           {of(dD), first, 2},
		"deletes of all":                            {of(dA, without(8, 6, opB.At...), dC, dD), first, 0},
		"its delete, and an insert right behind":    {of(dC, letter('y', run(1, 0, 3), run(9, 0, 1))), first, 2},
		"its delete, and an insert right ahead":     {of(dC, x), first, 3},
		"a mark at it":                              {of(m), m.Id, 0},
		"a mark ahead":                              {of(n), n.Id, 1},
		"a mark ahead of all":                       {of(mark(run(9, 3, 1))), by(9, 3), 2},
		"a mark right behind":                       {of(v), first, 2},
		"a mark behind all":                         {of(mark(run(1, 0, 5))), first, 2},
		"marks on both sides":                       {of(m, v), m.Id, 0},
		"marks at it and ahead":                     {of(m, n), m.Id, 0},
		"a mark at it, what is ahead taken away":    {of(m, dA), m.Id, 0},
		"a mark at it, an insert behind the mark":   {of(m, opU), m.Id, 1},
		"a mark at it, an insert ahead of the mark": {of(m, x), m.Id, 0},
		"a mark at it, and its delete":              {of(m, dC), m.Id, 0},
		"a mark at it, deletes of all behind":       {of(m, dC, dD), m.Id, 0},
		"a mark right behind, and its delete":       {of(v, dC), first, 2},
		"marks on both sides, and its delete":       {of(m, v, dC), m.Id, 0},
		"a mark at it, joined":                      {of(m, jM), first, 2},
		"a mark at it, joined twice":                {of(m, jM, join(13, 1, m.At...)), first, 2},
		"a mark at it, joined, and an insert":       {of(m, jM, opU), first, 3},
		"a mark at it, joined, one ahead is not":    {of(m, n, jM), n.Id, 1},
		"a mark at it, one ahead is joined":         {of(m, n, join(13, 0, n.At...)), m.Id, 0},
		"a mark at it, joined, and its delete":      {of(m, jM, dC), first, 2},
		"a join of a mark that is not there":        {of(jM), first, 2},
		"a join of it":                              {of(join(13, 0, opC.At...)), first, 2},
		"a delete of a mark at it":                  {of(m, without(13, 0, m.At...)), m.Id, 0},
		"all at once":                               {of(x, m, opU, v, dC, dA), m.Id, 1},
	} {
		l := of(opA, opB, opC, opD)
		p, e := Make(l, first, 2)
		if !same(p, opC.At) || e != api.OK {
			t.Fatalf("Make(A B C D, 0, 2): %v, %d", p, e)
		}
		for _, order := range orders(c.more) {
			now := l
			for _, o := range order {
				now = putTo(t, now, o)
				isFound(t, now, p)
			}
			if got := whereIs(now, p); got != (where{c.s, c.k, api.OK}) {
				t.Errorf("%s: %v; want %v, %d", what, got, c.s, c.k)
			}
		}
	}
}

// P17.3: what was anchored behind a mark lacks what is ahead when that is joined: then it is found where it would be seen, and is seen again when all is there.
func TestFoundWhereOneLacks(t *testing.T) {
	l := of(opC, opD, opM, opU)
	p, e := Make(l, opM.Id, 1)
	if !same(p, opC.At) || e != api.OK {
		t.Fatalf("Make(C D M U, M, 1): %v, %d", p, e)
	}
	for i, c := range []struct {
		o    api.Op
		want where
		seen bool
	}{
		{join(13, 0, opM.At...), where{first, 0, api.OK}, false},
		{opY, where{first, 1, api.OK}, false},
		{opA, where{first, 2, api.OK}, false},
		{mark(run(1, 0, 2), run(9, 0, 1)), where{by(9, 0), 1, api.OK}, true},
		{opB, where{by(9, 0), 1, api.OK}, true},
		{join(14, 0, run(1, 0, 2), run(9, 0, 1)), where{first, 4, api.OK}, true},
	} {
		l = putTo(t, l, c.o)
		if got := whereIs(l, p); got != c.want {
			t.Errorf("behind %d: %v; want %v", i+1, got, c.want)
		}
		if seen := isFound(t, l, p); seen != c.seen {
			t.Errorf("behind %d: seen %t; want %t", i+1, seen, c.seen)
		}
	}
}

// P17.3: with more operations, whatever they are, put in whatever order: all that was anchored is found behind each.
func TestFoundWithWhateverMore(t *testing.T) {
	seen, unseen := 0, 0
	d := &dice{5}
	for seed := range uint32(150) {
		whole := grown(12+int(seed%20), seed, []string{"iiiiidm", "iiidmj", "imdj", "iiiiddmmj", "iid"}[seed%5])
		if seed%4 == 0 {
			whole = mixed(d)
		}
		l := holed(whole, 2, seed+1000)
		anchors := anchored(t, l)
		for _, o := range d.shuffled(whole) {
			l = putTo(t, l, o)
			for _, p := range anchors {
				if isFound(t, l, p) {
					seen++
				} else {
					unseen++
				}
			}
		}
		if !sameOps(l, whole) {
			t.Fatalf("%v is not %v", brief(l), brief(whole))
		}
	}
	if seen < 5000 || unseen < 400 {
		t.Errorf("%d seen, %d not: too few to tell", seen, unseen)
	}
}

// item is an element on a line: a letter, or a mark. It stays there when it is taken away, or joined.
type item struct {
	id   api.Id
	at   []api.Run
	mark bool
	gone bool
}

// line is a text as somebody would write it on paper who knows no order of places.
type line []item

// behind is where on the line that is put which stands at an index of a section: right behind what is left of it.
func (l line) behind(s api.Id, k int) int {
	in, n := first, 0
	for i, x := range l {
		if in == s && n == k {
			return i
		}
		switch {
		case x.gone:
		case x.mark:
			in, n = x.id, 0
		default:
			n++
		}
	}
	return len(l)
}

// sections is how many letters each section has.
func (l line) sections() map[api.Id]int {
	in, out := first, map[api.Id]int{first: 0}
	for _, x := range l {
		switch {
		case x.gone:
		case x.mark:
			in = x.id
			out[in] = 0
		default:
			out[in]++
		}
	}
	return out
}

// finds is in which section an item stands, and how many letters stand there ahead of it.
func (l line) finds(id api.Id) where {
	in := where{}
	for _, x := range l {
		switch {
		case x.id == id:
			return in
		case x.gone:
		case x.mark:
			in = where{s: x.id}
		default:
			in.k++
		}
	}
	return where{e: api.ErrNone}
}

// takeAway marks what some deletes, or joins, take away as gone.
func (l line) takeAway(ops []api.Op) {
	for _, o := range ops {
		i := slices.IndexFunc(l, func(x item) bool { return x.id == endOf(o.At) })
		l[i].gone = true
	}
}

// put is the line with what some inserts, or a mark, made.
func (l line) put(i int, ops []api.Op) line {
	var some []item
	for _, o := range ops {
		some = append(some, item{id: o.Id, at: o.At, mark: o.Kind == 2})
	}
	return slices.Insert(l, i, some...)
}

// written is a day of calls by chance, by many replicas, one behind the other, and its line; behind each call look is told what is held, and the line.
func written(t *testing.T, seed uint32, steps int, look func(l []api.Op, paper line)) ([]api.Op, line) {
	t.Helper()
	d := &dice{seed}
	var l []api.Op
	var paper line
	time := uint32(0)
	for range steps {
		secs := sectionsOf(t, l)
		s := secs[d.under(len(secs))]
		n := paper.sections()[s]
		k, r := d.under(n+1), uint8(d.under(8))
		i := paper.behind(s, k)
		var ops []api.Op
		e := api.OK
		switch what := d.under(12); {
		case what == 0:
			ops, e = edit.Split(l, r, time, s, k)
			paper = paper.put(i, ops)
		case what == 1 && s != first:
			ops, e = edit.Merge(l, r, time, s)
			paper.takeAway(ops)
		case what < 6 && k < n:
			ops, e = edit.Delete(l, r, time, s, k, 1+d.under(min(4, n-k)))
			paper.takeAway(ops)
		default:
			ops, e = edit.Insert(l, r, time, s, k, []string{"x", "yz", "abcde"}[d.under(3)])
			paper = paper.put(i, ops)
		}
		if e != api.OK {
			t.Fatalf("seed %d, of %v at %d: %d", seed, s, k, e)
		}
		for _, o := range ops {
			l, time = putTo(t, l, o), max(time, o.Id.T)
		}
		look(l, paper)
	}
	return l, paper
}

// P17.3, V4: long days of calls: what was anchored is found in the section in which it stands on paper, at the index of what is left there first from it on.
func TestFoundAsOnPaper(t *testing.T) {
	found, gone := 0, 0
	for seed := range uint32(25) {
		written(t, seed, 60, func(l []api.Op, paper line) {
			for i, x := range paper {
				if x.mark || (i+len(paper))%5 > 0 {
					continue
				}
				found++
				if x.gone {
					gone++
				}
				want := paper.finds(x.id)
				if got := whereIs(l, x.at); got != want {
					t.Fatalf("seed %d, %v: %v; on paper %v", seed, x.at, got, want)
				}
				if x.gone {
					continue
				}
				if p, e := Make(l, want.s, want.k); !same(p, x.at) || e != api.OK {
					t.Fatalf("seed %d, Make(.., %v, %d): %v, %d; on paper %v", seed, want.s, want.k, p, e, x.at)
				}
			}
		})
	}
	if found < 10000 || gone < 1000 {
		t.Errorf("%d found, %d of them gone: too few to tell", found, gone)
	}
}

// lookedAt is where an item of a line is, by the marks that a node knows, and by what it shows.
func lookedAt(t *testing.T, l []api.Op, paper line, id api.Id) where {
	t.Helper()
	number := map[api.Id]int{}
	for i, x := range paper {
		number[x.id] = i
	}
	joined := map[api.Id]int{}
	for _, o := range l {
		if o.Kind == 4 {
			joined[endOf(o.At)]++
		}
	}
	in, last := where{}, -1
	for _, o := range l {
		if i := number[o.Id]; o.Kind == 2 && joined[o.Id] == 0 && i > last && i < number[id] {
			in.s, last = o.Id, i
		}
	}
	for _, x := range seenOf(t, l, in.s) {
		if number[x.Id] < number[id] {
			in.k++
		}
	}
	return in
}

// P17.3, V4: what was anchored is found at each node, whatever it holds of the day: in the section in which the line has it by the marks that this one knows, at the index of what it shows first from it on.
func TestFoundAtEachNode(t *testing.T) {
	elsewhere := 0
	for seed := range uint32(12) {
		whole, paper := written(t, seed+100, 50, func([]api.Op, line) {})
		for turn := range uint32(12) {
			l := holed(whole, 2+int(turn%7), seed*100+turn)
			for i, x := range paper {
				if x.mark || (i+int(turn))%3 > 0 {
					continue
				}
				want := lookedAt(t, l, paper, x.id)
				if got := whereIs(l, x.at); got != want {
					t.Fatalf("seed %d, turn %d, %v: %v; by the line %v", seed, turn, x.at, got, want)
				}
				if want != paper.finds(x.id) {
					elsewhere++
				}
			}
		}
	}
	if elsewhere < 500 {
		t.Errorf("%d found elsewhere than where all is held: too few to tell", elsewhere)
	}
}

// memory is a bag's, with what lies around it: other operations, and, around each place, other runs.
type memory struct {
	ops    []api.Op
	places [][]api.Run
}

// lay is a bag as it is, in memory where others are around.
func lay(l []api.Op) (memory, []api.Op) {
	m := memory{ops: slices.Concat(of(letter('a', run(1, 0, 1))), l, of(letter('b', run(1<<30, 6, 1)), letter('c', run(1<<30, 7, 1))))}
	for i, o := range l {
		p := slices.Concat(at(run(1, 0, 1)), o.At, at(run(9, 9, 9), run(8, 8, 8)))
		m.places = append(m.places, p)
		m.ops[1+i].At = p[1 : 1+len(o.At)]
	}
	return m, m.ops[1 : 1+len(l)]
}

// copied is a memory as it is now.
func (m memory) copied() memory {
	was := memory{ops: slices.Clone(m.ops)}
	for _, p := range m.places {
		was.places = append(was.places, slices.Clone(p))
	}
	return was
}

// same is whether nothing was changed: no number, and no place is another memory's.
func (m memory) same(was memory) bool {
	for i, p := range m.places {
		in := m.ops[1+i].At
		if !same(p, was.places[i]) || len(in) > 0 && &in[0] != &p[1] {
			return false
		}
	}
	return sameOps(m.ops, was.ops)
}

// spoil writes over all that a bag and the places in it have room for.
func (m memory) spoil() {
	for _, p := range m.places {
		spoilPlace(p)
	}
	for i := range m.ops {
		m.ops[i] = letter('z', run(78, 6, 1))
	}
}

// spoilPlace writes over all that a place has room for.
func spoilPlace(p []api.Run) {
	p = p[:cap(p)]
	for i := range p {
		p[i] = run(77, 7, 77)
	}
}

// P17.2: bags and places are only read, by each call, such as may not be, and calls that are refused, too.
func TestOnlyReads(t *testing.T) {
	bags := some()
	for _, o := range bad() {
		bags = append(bags, of(opA, opM, o, without(1<<29, 0, opA.At...)))
	}
	for _, l := range bags {
		m, in := lay(l)
		was := m.copied()
		for _, s := range stampsAbout(l) {
			for _, k := range []int{-1, 0, 1, 5} {
				Make(in, s, k)
			}
		}
		for _, p := range append(placesAbout(sample(l)), badPlaces()...) {
			around := slices.Concat(at(run(5, 5, 5)), p, at(run(6, 6, 6)))
			Find(in, around[1:1+len(p)])
			if !same(around, slices.Concat(at(run(5, 5, 5)), p, at(run(6, 6, 6)))) {
				t.Fatalf("%v is turned, asked of %v", short(p), brief(l))
			}
		}
		for _, o := range sample(in) {
			Find(in, o.At)
		}
		if !m.same(was) {
			t.Fatalf("%v is turned", brief(l))
		}
	}
}

// P17.2: the place that Make answers is new memory, of the bag's and of another answer's: each stays as it is when the other one is changed, and the bag does.
func TestPlacesAreNewMemory(t *testing.T) {
	for _, l := range append(some(), knownBag()) {
		m, in := lay(l)
		was := m.copied()
		type answer struct{ got, want []api.Run }
		var kept []answer
		for _, s := range sectionsOf(t, l) {
			for k, x := range seenOf(t, l, s) {
				want := slices.Clone(x.At)
				one, _ := Make(in, s, k)
				two, _ := Make(in, s, k)
				spoilPlace(one)
				if !m.same(was) || !same(two, want) {
					t.Fatalf("Make(%v, in %v, %d) shares memory", brief(l), s, k)
				}
				if three, e := Make(in, s, k); !same(three, want) || e != api.OK {
					t.Fatalf("Make(%v, in %v, %d), again: %v, %d", brief(l), s, k, three, e)
				}
				kept = append(kept, answer{two, want})
			}
		}
		m.spoil()
		for _, a := range kept {
			if !same(a.got, a.want) {
				t.Fatalf("%v, that Make answered, changes with what was handed in", a.want)
			}
		}
	}
}

// P1, P2, P17.2: nothing is kept from call to call: not a bag, not a place that is changed behind the call, not an error.
func TestKeepsNothing(t *testing.T) {
	l := knownBag()
	p, e := Make(l, opM.Id, 1)
	if !same(p, opC.At) || e != api.OK {
		t.Fatalf("Make(.., M, 1): %v, %d", p, e)
	}
	for range 3 {
		for _, x := range []struct {
			l    []api.Op
			p    []api.Run
			want where
		}{
			{l, p, where{opM.Id, 1, api.OK}},
			{l, opA.At, where{first, 1, api.OK}},
			{nil, p, where{first, 0, api.OK}},
			{l, nil, where{first, 0, api.ErrBad}},
			{l, p, where{opM.Id, 1, api.OK}},
			{of(opA, opA), p, where{first, 0, api.ErrBad}},
			{of(opA, opB, opC), p, where{first, 2, api.OK}},
		} {
			if got := whereIs(x.l, x.p); got != x.want {
				t.Errorf("Find(%v, %v): %v; want %v", x.l, x.p, got, x.want)
			}
			if got, e := Make(l, first, 0); !same(got, opY.At) || e != api.OK {
				t.Errorf("Make(.., 0, 0): %v, %d", got, e)
			}
			if got, e := Make(l, opA.Id, 0); got != nil || e != api.ErrSection {
				t.Errorf("Make(.., no section, 0): %v, %d", got, e)
			}
		}
	}
	// The bag, and the place, in the same memory as they were.
	for i, want := range []where{{opM.Id, 1, api.OK}, {opM.Id, 2, api.OK}, {opM.Id, 3, api.OK}, {opM.Id, 3, api.OK}} {
		q := at(run(1, 0, 3+i))
		copy(p, q)
		if got := whereIs(l, p); got != want {
			t.Errorf("Find(.., %v): %v; want %v", p, got, want)
		}
	}
	copy(p, opC.At)
	l[4] = letter('m', opM.At...)
	if got := whereIs(l, p); got != (where{first, 5, api.OK}) {
		t.Errorf("Find, the mark made a letter: %v", got)
	}
	if got, e := Make(l, first, 3); !same(got, opM.At) || e != api.OK {
		t.Errorf("Make, the mark made a letter: %v, %d", got, e)
	}
}

// bagFrom is a bag of what bytes tell: each four a kind, a stamp, and an element to stand under or to take away; some are not put in, so that others wait for them.
func bagFrom(b []byte) []api.Op {
	var l []api.Op
	places := [][]api.Run{nil}
	id := by(0, 7)
	for ; len(b) >= 4; b = b[4:] {
		if r := b[1] % 8; r > id.R && b[1] >= 128 {
			id.R = r
		} else {
			id = by(id.T+1+uint32(b[1]>>5), r)
		}
		p := places[int(b[2])%len(places)]
		o := api.Op{Kind: b[0] % 6, Id: id, At: p}
		switch {
		case o.Kind < 3:
			o.At = under(p, id)
			places = append(places, o.At)
		case endOf(p).T == 0:
			o.At = at(run(uint32(b[3]), b[2]%8, 1+int(b[3]%3)))
		}
		if o.Kind == 1 {
			o.Point = int(b[3]) * 257
		}
		if b[0] < 192 {
			l = append(l, o)
		}
	}
	return l
}

// P1, P17.1 to P17.3: whatever bag, stamp, index and place, such as may not be too.
func FuzzAnchor(f *testing.F) {
	f.Add([]byte{1, 0, 0, 97, 1, 0, 1, 98, 2, 1, 2, 0, 1, 0, 2, 99, 3, 2, 3, 0}, uint32(3), uint8(1), 0)
	f.Add([]byte{1, 0, 0, 97, 193, 0, 1, 98, 1, 0, 2, 99, 2, 1, 2, 0, 4, 2, 4, 0, 3, 0, 3, 0}, uint32(0), uint8(0), -1)
	f.Add([]byte{2, 0, 0, 0, 2, 1, 1, 0, 1, 1, 2, 0, 4, 0, 1, 0, 3, 129, 3, 0}, uint32(2), uint8(1), 1)
	f.Add([]byte{5, 0, 0, 0}, uint32(1<<30), uint8(7), 4096)
	f.Add([]byte{1, 0, 0, 65, 3, 64, 0, 1, 1, 1, 0, 66, 3, 1, 1, 0, 3, 2, 1, 0}, uint32(1), uint8(0), 2)
	f.Fuzz(func(t *testing.T, b []byte, time uint32, r uint8, k int) {
		// Long ones are asked elsewhere: here many are, fast.
		l := bagFrom(b[:min(len(b), 120)])
		m, in := lay(l)
		was := m.copied()
		w := wordsOf(l)
		makes(t, in, w, by(time, r), k)
		asks(t, in, append(stampsAbout(l), by(time, r)), append(placesAbout(l), at(run(time, r, k)), at(run(1, 0, 1), run(time, r, k))))
		if !w.bad {
			part := holed(l, 2, time)
			anchors := anchored(t, part)
			for _, o := range (&dice{time}).shuffled(l) {
				part = putTo(t, part, o)
				for _, p := range anchors {
					isFound(t, part, p)
				}
			}
		}
		if !m.same(was) {
			t.Fatalf("%v is turned", brief(l))
		}
	})
}
