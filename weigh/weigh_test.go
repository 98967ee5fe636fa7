package weigh

import (
	"math"
	"slices"
	"testing"

	"octavo/api"
	"octavo/bag"
	"octavo/code"
	"octavo/op"
)

// run is so many stamps by r from t on.
func run(t uint32, r uint8, many int) api.Run {
	return api.Run{T: t, R: r, Many: many}
}

// at is a place of some runs.
func at(l ...api.Run) []api.Run {
	return l
}

// by is a stamp.
func by(t uint32, r uint8) api.Id {
	return api.Id{T: t, R: r}
}

// of is a list of some operations.
func of(l ...api.Op) []api.Op {
	return l
}

// alone is so many runs of one stamp, by two replicas in turn.
func alone(many int) []api.Run {
	var p []api.Run
	for i := range many {
		p = append(p, run(uint32(i+1), uint8(i%2), 1))
	}
	return p
}

// endOf is the last stamp of a place; the zero one, if it has none.
func endOf(p []api.Run) api.Id {
	if len(p) == 0 {
		return api.Id{}
	}
	r := p[len(p)-1]
	return by(r.T+uint32(r.Many)-1, r.R)
}

// letter is an insert of a code point.
func letter(n int, p ...api.Run) api.Op {
	return api.Op{Kind: 1, Id: endOf(p), At: p, Point: n}
}

func mark(p ...api.Run) api.Op {
	return api.Op{Kind: 2, Id: endOf(p), At: p}
}

func without(t uint32, r uint8, p ...api.Run) api.Op {
	return api.Op{Kind: 3, Id: by(t, r), At: p}
}

func join(t uint32, r uint8, p ...api.Run) api.Op {
	return api.Op{Kind: 4, Id: by(t, r), At: p}
}

// placeMayBe is whether a place may be, by the words of chapter 6.
func placeMayBe(p []api.Run) bool {
	many, end := 0, api.Id{}
	for i, r := range p {
		if r.R > 7 || r.T < 1 || r.Many < 1 || r.Many > 4096 || int(r.T)+r.Many-1 > 1<<30 {
			return false
		}
		if i > 0 && (r.T <= end.T || by(r.T-1, r.R) == end) {
			return false
		}
		many, end = many+r.Many, endOf(p[:i+1])
	}
	return len(p) >= 1 && len(p) <= 64 && many <= 4096
}

// mayBe is whether an operation may be, by the words of chapters 9, 6, 5 and 4.
func mayBe(o api.Op) bool {
	if !placeMayBe(o.At) || o.Id.T < 1 || o.Id.T > 1<<30 || o.Id.R > 7 {
		return false
	}
	end := endOf(o.At)
	switch o.Kind {
	case 1:
		return o.Id == end && (o.Point >= 0 && o.Point < 0xd800 || o.Point > 0xdfff && o.Point <= 0x10ffff)
	case 2:
		return o.Id == end && o.Point == 0
	case 3, 4:
		return o.Id.T > end.T && o.Point == 0
	}
	return false
}

// allMayBe is whether each of some operations may be.
func allMayBe(l []api.Op) bool {
	return !slices.ContainsFunc(l, func(o api.Op) bool { return !mayBe(o) })
}

// sizeOf is how many bytes a number has, by the words of chapter 1.
func sizeOf(n int) int {
	size := 1
	for ; n >= 128; n /= 128 {
		size++
	}
	return size
}

// weight is what an operation that may be weighs, by the words of chapters 10 and 18.
func weight(o api.Op) int {
	w := sizeOf(int(o.Kind)) + sizeOf(len(o.At))
	for i, r := range o.At {
		w += sizeOf(int(r.T)-int(endOf(o.At[:i]).T)) + sizeOf(int(r.R)) + sizeOf(r.Many)
	}
	switch o.Kind {
	case 1:
		w += sizeOf(o.Point)
	case 3, 4:
		w += sizeOf(int(o.Id.T)-int(endOf(o.At).T)) + sizeOf(int(o.Id.R))
	}
	return w
}

// weightOfAll is what operations that may be weigh together, of whatever kind.
func weightOfAll(l []api.Op) int {
	all := 0
	for _, o := range l {
		all += weight(o)
	}
	return all
}

// contentOf is the inserts and deletes of a list.
func contentOf(l []api.Op) []api.Op {
	return slices.DeleteFunc(slices.Clone(l), func(o api.Op) bool { return o.Kind != 1 && o.Kind != 3 })
}

// refusalInWords is the error of a list, by the chapter's words.
func refusalInWords(l []api.Op) api.Errno {
	switch {
	case len(l) > 1024:
		return api.ErrMany
	case !allMayBe(l):
		return api.ErrBad
	}
	return api.OK
}

// pieceInWords is how many of a list that has no error are its piece: the most that may be.
func pieceInWords(l []api.Op) int {
	for many := min(len(l), 64); many > 1; many-- {
		if weightOfAll(l[:many]) <= 8192 {
			return many
		}
	}
	return min(len(l), 1)
}

// brief is an operation that is short enough to be told.
func brief(o api.Op) api.Op {
	o.At = o.At[:min(len(o.At), 5)]
	return o
}

// sameList is whether two lists have the same operations.
func sameList(a, b []api.Op) bool {
	return slices.EqualFunc(a, b, op.Same)
}

// weighs asks Bytes of an operation, and holds its answer against the words.
func weighs(t *testing.T, o api.Op) {
	t.Helper()
	want, refusal := 0, api.ErrBad
	if mayBe(o) {
		want, refusal = weight(o), api.OK
	}
	if n, e := Bytes(o); n != want || e != refusal {
		t.Fatalf("Bytes of %v with %d runs: %d, %d; want %d, %d", brief(o), len(o.At), n, e, want, refusal)
	}
}

// tells asks Total and Piece of a list, and holds their answers against the words.
func tells(t *testing.T, what string, l []api.Op) {
	t.Helper()
	want, total, many := refusalInWords(l), 0, 0
	if want == api.OK {
		total, many = weightOfAll(contentOf(l)), pieceInWords(l)
	}
	if n, e := Total(l); n != total || e != want {
		t.Fatalf("Total of %s, %d operations: %d, %d; want %d, %d", what, len(l), n, e, total, want)
	}
	if p, e := Piece(l); !sameList(p, l[:many]) || e != want {
		t.Fatalf("Piece of %s, %d operations: %d, %d; want the first %d, %d", what, len(l), len(p), e, many, want)
	}
}

// refuses asks whether Total and Piece of a list answer an error, and nothing beside it.
func refuses(t *testing.T, what string, l []api.Op, want api.Errno) {
	t.Helper()
	if n, e := Total(l); n != 0 || e != want {
		t.Errorf("Total of %s, %d operations: %d, %d; want 0, %d", what, len(l), n, e, want)
	}
	if p, e := Piece(l); len(p) != 0 || e != want {
		t.Errorf("Piece of %s, %d operations: %d, %d; want none, %d", what, len(l), len(p), e, want)
	}
}

// least is the least number above 0 that has so many bytes.
func least(size int) int {
	return 1 << (7 * (size - 1))
}

// most is what an operation of a kind can weigh at most.
func most(kind uint8) int {
	return [...]int{1: 423, 2: 420, 3: 425, 4: 425}[kind]
}

// fewest is what an operation of a kind weighs at least.
func fewest(kind uint8) int {
	return [...]int{1: 6, 2: 5, 3: 7, 4: 7}[kind]
}

// weighing is an operation of a kind that weighs just so much: it has as many runs as go in it, and then more bytes for their times, for how many stamps they have, and for what stands behind them.
func weighing(kind uint8, n int) api.Op {
	left := n - fewest(kind) + 3
	runs := min(64, left/3)
	left -= 3 * runs
	times, manys, tail := slices.Repeat([]int{1}, runs), slices.Repeat([]int{1}, runs), []int{1}
	give := func(sizes []int, more int) {
		for i := range sizes {
			x := min(left, more)
			sizes[i] += x
			left -= x
		}
	}
	give(times, 3)
	give(manys[:min(runs, 31)], 1)
	give(times[:min(runs, 3)], 1)
	if kind != 2 {
		give(tail, 2)
	}
	if kind > 2 {
		give(tail, 1)
	}
	o := api.Op{Kind: kind}
	for i := range runs {
		o.At = append(o.At, run(endOf(o.At).T+uint32(least(times[i])), uint8(i%2), least(manys[i])))
	}
	o.Id = endOf(o.At)
	switch kind {
	case 1:
		o.Point = least(tail[0])
	case 3, 4:
		o.Id = by(o.Id.T+uint32(least(tail[0])), 5)
	}
	return o
}

// goodPlaces is places of the edges, all of which may be.
func goodPlaces() [][]api.Run {
	return [][]api.Run{
		at(run(1, 0, 1)), at(run(1, 7, 1)), at(run(2, 0, 1)), at(run(1, 0, 3)), at(run(127, 3, 1)), at(run(128, 3, 4)), at(run(300, 1, 127)), at(run(16383, 1, 128)), at(run(16384, 1, 300)), at(run(1<<21-1, 1, 1)), at(run(1<<21, 1, 1)), at(run(1<<28-1, 1, 1)), at(run(1<<28, 1, 1)),
		at(run(1, 0, 4095)), at(run(1, 0, 4096)), at(run(9, 7, 4096)), at(run(1<<30-1, 3, 1)), at(run(1<<30, 0, 1)), at(run(1<<30, 7, 1)), at(run(1<<30-1, 0, 2)), at(run(1<<30-4096, 2, 4096)), at(run(1<<30-4095, 2, 4096)),
		at(run(1, 0, 3), run(5, 2, 1)), at(run(2, 1, 2), run(7, 0, 1)), at(run(1, 0, 2), run(3, 1, 1)), at(run(1, 0, 2), run(4, 0, 1)), at(run(1, 0, 1), run(2, 7, 1), run(3, 0, 5)), at(run(1, 5, 1), run(1<<30, 5, 1)), at(run(1, 5, 2), run(130, 5, 1), run(500, 0, 2)), at(run(1, 7, 1), run(300, 0, 1)),
		at(run(1, 0, 127), run(254, 1, 1)), at(run(1, 0, 127), run(255, 1, 1)), at(run(1, 0, 128), run(255, 1, 128), run(383, 0, 127)),
		at(run(1, 0, 2048), run(2049, 1, 2048)), at(run(1, 0, 4095), run(4096, 3, 1)), at(run(1, 3, 1), run(2, 0, 4095)),
		alone(2), alone(63), alone(64), append(alone(63), run(64, 1, 4033)), append(alone(63), run(1<<30, 7, 1)), append(at(run(1, 3, 4033)), alone(4096)[4033:]...), weighing(2, 420).At, weighing(3, 425).At,
	}
}

// goodPoints is code points of the edges.
func goodPoints() []int {
	return []int{0, 1, 97, 127, 128, 0x20ac, 16383, 16384, 0xd7ff, 0xe000, 0x1f600, 0x10ffff}
}

// good is operations of all kinds, all of which may be.
func good() []api.Op {
	var l []api.Op
	for _, p := range goodPlaces() {
		for _, n := range goodPoints() {
			l = append(l, letter(n, p...))
		}
		l = append(l, mark(p...))
		end := endOf(p)
		for _, later := range []uint32{1, 2, 127, 128, 16383, 16384, 1<<21 - 1, 1 << 21, 1<<28 - 1, 1 << 28, 1<<30 - end.T} {
			if later == 0 || later > 1<<30-end.T {
				continue
			}
			for _, r := range []uint8{0, end.R, 7} {
				l = append(l, without(end.T+later, r, p...), join(end.T+later, r, p...))
			}
		}
	}
	return l
}

// badPlaces is the beginning, and lists that may not be.
func badPlaces() [][]api.Run {
	return [][]api.Run{
		nil, {}, at(api.Run{}), at(run(0, 0, 1)), at(run(3, 0, 0)), at(run(3, 0, -1)), at(run(3, 0, math.MinInt)), at(run(1, 0, 4097)), at(run(3, 0, 1<<32+1)), at(run(3, 0, math.MaxInt)),
		at(run(3, 8, 1)), at(run(3, 255, 1)), at(run(1<<30+1, 0, 1)), at(run(1<<30, 0, 2)), at(run(math.MaxUint32, 0, 4)), at(run(math.MaxUint32, 255, math.MaxInt)),
		at(run(1, 0, 2), run(3, 0, 1)), at(run(1, 0, 2), run(2, 1, 1)), at(run(1, 0, 2), run(2, 0, 1)), at(run(4, 0, 1), run(3, 1, 1)), at(run(1, 0, 2), api.Run{}), at(api.Run{}, run(3, 0, 1)),
		at(run(1, 0, 2048), run(2049, 1, 2049)), at(run(1, 0, 4096), run(4097, 1, 1)), alone(65), append(alone(63), run(64, 1, 4034)), slices.Repeat(at(run(3, 0, 1)), 1<<12), make([]api.Run, 64),
	}
}

// bad is operations that may not be: those that may be with one part turned, and those at no places.
func bad() []api.Op {
	l := of(api.Op{}, api.Op{Kind: 1}, api.Op{Kind: 2}, api.Op{Kind: 3, Id: by(3, 0)}, api.Op{Kind: 255, Id: by(math.MaxUint32, 255), Point: math.MinInt})
	turned := func(o api.Op, turn func(o *api.Op)) {
		if turn(&o); !mayBe(o) {
			l = append(l, o)
		}
	}
	for _, p := range goodPlaces() {
		end := endOf(p)
		for _, o := range of(letter(97, p...), mark(p...), without(end.T+1, end.R, p...), join(end.T+1, end.R, p...)) {
			for _, kind := range []uint8{0, 5, o.Kind + 128, o.Kind + 8, 255} {
				turned(o, func(o *api.Op) { o.Kind = kind })
			}
			for _, r := range []uint8{(end.R + 1) % 8, 8, 9, 128, 255} {
				turned(o, func(o *api.Op) { o.Id.R = r })
			}
			for _, time := range []uint32{0, end.T - 1, end.T, end.T + 1, 1<<30 + 1, 1 << 31, math.MaxUint32} {
				turned(o, func(o *api.Op) { o.Id.T = time })
			}
			for _, n := range []int{-1, 1, 0x110000, 0xd800, 0xdfff, 1 << 32, 1 << 40, 1<<40 + 1, math.MinInt, math.MaxInt} {
				turned(o, func(o *api.Op) { o.Point = n })
			}
			turned(o, func(o *api.Op) { o.At = nil })
			turned(o, func(o *api.Op) { o.At = append(slices.Clip(o.At), o.At[len(o.At)-1]) })
		}
	}
	for _, p := range badPlaces() {
		for kind := range uint8(6) {
			l = append(l, api.Op{Kind: kind, Id: by(3, 0), At: p}, api.Op{Kind: kind, Id: by(9, 1), At: p}, api.Op{Kind: kind, Id: endOf(p), At: p})
		}
	}
	return l
}

// dice is made-up numbers, the same ones each time.
type dice struct{ seed uint32 }

func (d *dice) below(n int) int {
	d.seed = d.seed*1664525 + 1013904223
	return int(d.seed>>8) % n
}

// made is so many made-up operations, of all kinds and all weights up to one.
func (d *dice) made(many, heaviest int) []api.Op {
	var l []api.Op
	for range many {
		kind := uint8(1 + d.below(4))
		from := fewest(kind)
		l = append(l, weighing(kind, from+d.below(max(1, min(heaviest, most(kind))-from+1))))
	}
	return l
}

// many is so many operations of all kinds that may be, in no order.
func many(n int) []api.Op {
	l := good()
	var out []api.Op
	for i := range n {
		out = append(out, l[i*37%len(l)])
	}
	return out
}

// P18.1, Bytes: weights that are known, one by one, of each kind.
func TestBytesTellsKnown(t *testing.T) {
	three := at(run(1, 0, 3))
	for _, c := range []struct {
		o    api.Op
		want int
	}{
		{mark(run(1, 0, 1)), 5}, {mark(run(1, 7, 1)), 5}, {mark(run(127, 0, 1)), 5}, {mark(run(128, 0, 1)), 6}, {mark(run(16383, 0, 1)), 6}, {mark(run(16384, 0, 1)), 7}, {mark(run(1<<21-1, 0, 1)), 7}, {mark(run(1<<21, 0, 1)), 8}, {mark(run(1<<28-1, 0, 1)), 8}, {mark(run(1<<28, 0, 1)), 9}, {mark(run(1<<30, 7, 1)), 9},
		{mark(run(1, 0, 127)), 5}, {mark(run(1, 0, 128)), 6}, {mark(run(1, 0, 4096)), 6}, {mark(run(1<<30-4095, 7, 4096)), 10},
		{mark(run(1, 0, 1), run(3, 0, 1)), 8}, {mark(run(1<<30-2, 0, 1), run(1<<30, 0, 1)), 12}, {mark(run(1, 0, 127), run(254, 1, 1)), 8}, {mark(run(1, 0, 127), run(255, 1, 1)), 9},
		{mark(alone(2)...), 8}, {mark(alone(63)...), 191}, {mark(alone(64)...), 194}, {mark(append(alone(63), run(64, 1, 4033))...), 195},
		{letter(97, three...), 6}, {letter(0, three...), 6}, {letter(127, three...), 6}, {letter(128, three...), 7}, {letter(16383, three...), 7}, {letter(16384, three...), 8}, {letter(0x10ffff, three...), 8}, {letter(0x10ffff, run(1<<30, 7, 1)), 12}, {letter(0x10ffff, alone(64)...), 197},
		{without(4, 0, three...), 7}, {without(4, 7, three...), 7}, {without(130, 0, three...), 7}, {without(131, 0, three...), 8}, {without(3+16383, 0, three...), 8}, {without(3+16384, 0, three...), 9}, {without(3+1<<21, 0, three...), 10}, {without(3+1<<28, 0, three...), 11}, {without(1<<30, 7, three...), 11}, {without(9, 1, run(1, 0, 3), run(5, 2, 1)), 10}, {without(1<<30, 7, alone(64)...), 200}, {without(1<<30, 0, run(1<<30-1, 7, 1)), 11},
		{join(4, 0, three...), 7}, {join(4, 7, three...), 7}, {join(130, 0, three...), 7}, {join(131, 0, three...), 8}, {join(3+16384, 0, three...), 9}, {join(3+1<<21, 0, three...), 10}, {join(1<<30, 7, three...), 11}, {join(1<<30, 7, alone(64)...), 200},
	} {
		if n, e := Bytes(c.o); n != c.want || e != api.OK {
			t.Errorf("Bytes of %v with %d runs: %d, %d; want %d", brief(c.o), len(c.o.At), n, e, c.want)
		}
	}
}

// P18.1, Bytes: of each replica, at each point of some, of each time about those where one more byte is needed.
func TestBytesTellsEdges(t *testing.T) {
	for _, size := range []int{1, 2, 3, 4, 5} {
		for n := least(size) - 2; n <= least(size)+2; n++ {
			for r := range uint8(8) {
				weighs(t, mark(run(uint32(n), r, 1)))
				weighs(t, letter(n, run(uint32(n), r, 1), run(uint32(2*n), 7-r, 1)))
				weighs(t, without(uint32(3+n), r, run(1, r, 3)))
				weighs(t, join(uint32(3+n), r, run(1, 7-r, 3)))
				weighs(t, mark(run(9, r, n)))
				weighs(t, mark(run(9, r, 2), run(10+uint32(n), 7-r, 2)))
			}
		}
	}
	for n := range 400 {
		weighs(t, letter(n, run(1, 0, 1)))
		weighs(t, mark(run(uint32(n), 0, 1)))
		weighs(t, mark(run(1, 0, n)))
		weighs(t, without(uint32(n), 1, run(1, 0, 2)))
	}
	for runs := range 67 {
		p := alone(runs)
		weighs(t, letter(97, p...))
		weighs(t, mark(p...))
		weighs(t, without(900, 1, p...))
		weighs(t, join(900, 1, p...))
	}
}

// P18.1, Bytes: operations of all kinds at places of the edges; ErrBad, and nothing beside it, of those that may not be, by each of their parts.
func TestBytesTellsAll(t *testing.T) {
	for _, o := range good() {
		if !mayBe(o) {
			t.Fatalf("%v may not be", brief(o))
		}
		weighs(t, o)
	}
	for _, o := range bad() {
		if mayBe(o) {
			t.Fatalf("%v may be", brief(o))
		}
		if n, e := Bytes(o); n != 0 || e != api.ErrBad {
			t.Errorf("Bytes of %v with %d runs: %d, %d; want 0, ErrBad", brief(o), len(o.At), n, e)
		}
		if e := op.Check(o); e != api.ErrBad {
			t.Errorf("op.Check of %v: %d", brief(o), e)
		}
	}
	for kind := range 256 {
		for _, id := range []api.Id{by(3, 0), by(3, 1), by(4, 0), by(4, 7)} {
			for _, n := range []int{0, 1, 97} {
				weighs(t, api.Op{Kind: uint8(kind), Id: id, At: at(run(1, 0, 3)), Point: n})
			}
		}
	}
}

// P18.1, Bytes: all weights that an operation of a kind can have.
func TestBytesTellsEachWeight(t *testing.T) {
	for kind := uint8(1); kind <= 4; kind++ {
		for n := fewest(kind); n <= most(kind); n++ {
			o := weighing(kind, n)
			if weight(o) != n || !mayBe(o) {
				t.Fatalf("%v weighs %d on paper, not %d, or may not be", brief(o), weight(o), n)
			}
			if got, e := Bytes(o); got != n || e != api.OK {
				t.Errorf("Bytes of %v with %d runs: %d, %d; want %d", brief(o), len(o.At), got, e, n)
			}
		}
	}
}

// P18.1: an operation weighs as many bytes as code.Put answers, and these are all that code.Get reads of it.
func TestBytesAreThoseOfCode(t *testing.T) {
	for _, o := range append(good(), bad()...) {
		n, e := Bytes(o)
		b, f := code.Put(o)
		if n != len(b) || e != f {
			t.Fatalf("Bytes of %v: %d, %d; Put: %d, %d", brief(o), n, e, len(b), f)
		}
		if e != api.OK {
			continue
		}
		if _, size, e := code.Get(append(b, 1, 2, 3)); size != n || e != api.OK {
			t.Fatalf("Get of %v reads %d, %d; want %d", brief(o), size, e, n)
		}
	}
}

// P18.3: each operation weighs 5 at least, and at most 800; that at most 425 is one whose numbers all have as many bytes as the limits let them.
func TestWeightsAreInBounds(t *testing.T) {
	d, lightest, heaviest := dice{3}, 1000, 0
	for _, o := range append(good(), d.made(4000, 1000)...) {
		n, e := Bytes(o)
		if e != api.OK || n < 5 || n > 800 {
			t.Fatalf("Bytes of %v with %d runs: %d, %d", brief(o), len(o.At), n, e)
		}
		lightest, heaviest = min(lightest, n), max(heaviest, n)
	}
	if lightest != 5 || heaviest != 425 {
		t.Errorf("the lightest weighs %d, the heaviest %d", lightest, heaviest)
	}
	// One byte more, wherever, and the heaviest may not be.
	o := weighing(3, 425)
	const later = 1<<28 - 1<<21
	wider := of(o, o)
	wider[0].Id.T += later
	wider[1].Id.R = 128
	for i := range o.At {
		for _, turn := range []func(p []api.Run) []api.Run{
			func(p []api.Run) []api.Run { return shifted(p, i, later) },
			func(p []api.Run) []api.Run { p[i].R = 128; return p },
			func(p []api.Run) []api.Run {
				was := p[i].Many
				p[i].Many = least(1 + sizeOf(was))
				return shifted(p, i+1, p[i].Many-was)
			},
		} {
			p := turn(slices.Clone(o.At))
			wider = append(wider, without(endOf(p).T+1<<21, 5, p...))
		}
	}
	for _, x := range wider {
		if n, e := Bytes(x); n != 0 || e != api.ErrBad || mayBe(x) {
			t.Errorf("Bytes of one byte more than the heaviest, %v: %d, %d; want 0, ErrBad", brief(x), n, e)
		}
	}
}

// shifted is a place whose runs from one on are so much later.
func shifted(p []api.Run, from, later int) []api.Run {
	q := slices.Clone(p)
	for i := from; i < len(q); i++ {
		q[i].T += uint32(later)
	}
	return q
}

// P18.1, Total and Piece: lists that are known.
func TestListsThatAreKnown(t *testing.T) {
	a, m := letter(97, run(1, 0, 3)), mark(run(1, 0, 1))
	d, j := without(9, 1, run(1, 0, 3)), join(9, 1, run(1, 0, 3), run(5, 2, 1))
	for _, c := range []struct {
		what        string
		l           []api.Op
		total, many int
	}{
		{"none", nil, 0, 0},
		{"an empty list", of(), 0, 0},
		{"an insert", of(a), 6, 1},
		{"a delete", of(d), 7, 1},
		{"a mark", of(m), 0, 1},
		{"a join", of(j), 0, 1},
		{"one of each kind", of(a, m, d, j), 13, 4},
		{"one of each kind, the other way", of(j, d, m, a), 13, 4},
		{"content alone", of(a, d, d, a), 26, 4},
		{"the directory alone", of(m, j, j, m), 0, 4},
		{"an insert, twice", of(a, a), 12, 2},
		{"a delete and its element, in no order", of(d, a), 13, 2},
		{"63 inserts", slices.Repeat(of(a), 63), 378, 63},
		{"64 inserts", slices.Repeat(of(a), 64), 384, 64},
		{"65 inserts", slices.Repeat(of(a), 65), 390, 64},
		{"64 marks", slices.Repeat(of(m), 64), 0, 64},
		{"65 marks", slices.Repeat(of(m), 65), 0, 64},
		{"64 joins and an insert", append(slices.Repeat(of(j), 64), a), 6, 64},
		{"1023 deletes", slices.Repeat(of(d), 1023), 7161, 64},
		{"1024 deletes", slices.Repeat(of(d), 1024), 7168, 64},
		{"1024 of each kind in turn", slices.Repeat(of(a, m, d, j), 256), 256 * 13, 64},
		{"1024 marks", slices.Repeat(of(m), 1024), 0, 64},
		{"1024 of the heaviest deletes", slices.Repeat(of(weighing(3, 425)), 1024), 1024 * 425, 19},
		{"1024 of the heaviest joins", slices.Repeat(of(weighing(4, 425)), 1024), 0, 19},
		{"20 of the heaviest inserts", slices.Repeat(of(weighing(1, 423)), 20), 8460, 19},
		{"19 of the heaviest marks", slices.Repeat(of(weighing(2, 420)), 19), 0, 19},
		{"20 of the heaviest marks", slices.Repeat(of(weighing(2, 420)), 20), 0, 19},
	} {
		if n, e := Total(c.l); n != c.total || e != api.OK {
			t.Errorf("Total of %s: %d, %d; want %d", c.what, n, e, c.total)
		}
		if p, e := Piece(c.l); !sameList(p, c.l[:c.many]) || e != api.OK {
			t.Errorf("Piece of %s: %d, %d; want %d", c.what, len(p), e, c.many)
		}
		tells(t, c.what, c.l)
	}
}

// P18.1, Total: each kind alone, and that the directory counts for nothing, wherever it stands.
func TestTotalIsThatOfContent(t *testing.T) {
	l := good()
	for start := 0; start+200 < len(l); start += 150 {
		some := l[start : start+200]
		want, e := Total(contentOf(some))
		if e != api.OK || want != weightOfAll(contentOf(some)) {
			t.Fatalf("Total of content alone: %d, %d", want, e)
		}
		if n, e := Total(some); n != want || e != api.OK {
			t.Fatalf("Total with marks and joins: %d, %d; want %d", n, e, want)
		}
		directory := slices.DeleteFunc(slices.Clone(some), func(o api.Op) bool { return o.Kind == 1 || o.Kind == 3 })
		if n, e := Total(directory); n != 0 || e != api.OK || len(directory) == 0 {
			t.Fatalf("Total of %d marks and joins: %d, %d; want 0", len(directory), n, e)
		}
	}
	for _, o := range l {
		want := 0
		if o.Kind == 1 || o.Kind == 3 {
			want = weight(o)
		}
		if n, e := Total(of(o)); n != want || e != api.OK {
			t.Fatalf("Total of %v alone: %d, %d; want %d", brief(o), n, e, want)
		}
		if p, e := Piece(of(o)); !sameList(p, of(o)) || e != api.OK {
			t.Fatalf("Piece of %v alone: %d, %d", brief(o), len(p), e)
		}
	}
}

// P18.1: lists of none up to more than may be: ErrMany, and nothing beside it, of more than 1024.
func TestHowMany(t *testing.T) {
	for n := 0; n <= 1024; n += 1 + n/9 {
		tells(t, "all kinds", many(n))
	}
	for _, n := range []int{0, 1, 2, 3, 62, 63, 64, 65, 66, 127, 128, 129, 1022, 1023, 1024} {
		tells(t, "all kinds", many(n))
		for kind := uint8(1); kind <= 4; kind++ {
			tells(t, "one kind", slices.Repeat(of(weighing(kind, 9)), n))
			tells(t, "one kind, each heavy", slices.Repeat(of(weighing(kind, 400)), n))
		}
	}
	for _, n := range []int{1025, 1026, 2047, 2048, 1 << 16, 1 << 20} {
		refuses(t, "marks", slices.Repeat(of(mark(run(1, 0, 1))), n), api.ErrMany)
		refuses(t, "inserts", slices.Repeat(of(letter(97, run(1, 0, 1))), n), api.ErrMany)
		refuses(t, "zero operations", make([]api.Op, n), api.ErrMany)
	}
	refuses(t, "all kinds", many(1025), api.ErrMany)
	room := make([]api.Op, 1024, 5000)
	copy(room, many(1024))
	tells(t, "a list with room", room)
}

// P18.1: the first error: ErrMany ahead of what any one tells, and ErrBad wherever one that may not be stands.
func TestFirstError(t *testing.T) {
	wrong := bad()
	for _, n := range []int{1, 2, 3, 64, 65, 66, 129, 1023, 1024, 1025, 1026, 3000} {
		want := api.ErrBad
		if n > 1024 {
			want = api.ErrMany
		}
		for _, i := range []int{0, 1, n / 2, 63, 64, 65, n - 2, n - 1} {
			if i < 0 || i >= n {
				continue
			}
			l := many(n)
			l[i] = api.Op{Kind: 5}
			refuses(t, "one that may not be", l, want)
			l[n-1-i] = letter(0xd800, run(1, 0, 1))
			refuses(t, "two that may not be", l, want)
		}
		refuses(t, "all that may not be", slices.Repeat(wrong, 1+n/len(wrong))[:n], want)
	}
	heavy := slices.Repeat(of(weighing(4, 425)), 100)
	for i := range heavy {
		l := slices.Clone(heavy)
		l[i] = wrong[i]
		refuses(t, "heavy ones, one that may not be", l, api.ErrBad)
	}
}

// P18.1: one that may not be, in each way, wherever it stands, and two that are wrong in different ways.
func TestEachThatMayNotBe(t *testing.T) {
	three := many(3)
	wrong := bad()
	for i, o := range wrong {
		refuses(t, "one that may not be, alone", of(o), api.ErrBad)
		for j := range 4 {
			l := slices.Insert(slices.Clone(three), j, o)
			refuses(t, "three, and one that may not be", l, api.ErrBad)
			other := wrong[(i*31+7)%len(wrong)]
			refuses(t, "three, and two that may not be", append(l, other), api.ErrBad)
			refuses(t, "two that may not be, and three", append(of(other), l...), api.ErrBad)
		}
	}
}

// P18.1, Piece: that is ended by the number: of 64 or more that weigh little.
func TestPieceEndsByNumber(t *testing.T) {
	d := dice{5}
	for n := 60; n <= 140; n++ {
		l := d.made(n, 120)
		if p, e := Piece(l); !sameList(p, l[:min(n, 64)]) || e != api.OK {
			t.Errorf("Piece of %d light ones: %d, %d", n, len(p), e)
		}
	}
	// 64 that weigh just 8192 are ended by both.
	for kind := uint8(1); kind <= 4; kind++ {
		l := slices.Repeat(of(weighing(kind, 128)), 66)
		for n := 62; n <= 66; n++ {
			if p, e := Piece(l[:n]); len(p) != min(n, 64) || e != api.OK {
				t.Errorf("Piece of %d that weigh 128 each: %d, %d", n, len(p), e)
			}
		}
		l[63] = weighing(kind, 129)
		for n := 62; n <= 66; n++ {
			if p, e := Piece(l[:n]); len(p) != min(n, 63) || e != api.OK {
				t.Errorf("Piece of %d that weigh 128 each, the 64th 129: %d, %d", n, len(p), e)
			}
		}
		l[0] = weighing(kind, 127)
		for n := 62; n <= 66; n++ {
			if p, e := Piece(l[:n]); len(p) != min(n, 64) || e != api.OK {
				t.Errorf("Piece of %d that weigh 128 each, the first 127, the 64th 129: %d, %d", n, len(p), e)
			}
		}
	}
}

// adding is operations of made-up kinds that weigh just so much together, each at most so much.
func (d *dice) adding(all, heaviest int) []api.Op {
	var l []api.Op
	for left := all; left > 0; {
		kind := uint8(1 + d.below(4))
		n := fewest(kind) + d.below(min(heaviest, most(kind))-fewest(kind)+1)
		switch {
		case left <= 400 && left >= 7:
			n = left
		case left-n < 7:
			continue
		}
		l = append(l, weighing(kind, n))
		left -= n
	}
	return l
}

// P18.1, Piece: that is ended by the weight: lists that weigh just 8192, one byte more, one less, with others behind them, and without.
func TestPieceEndsByWeight(t *testing.T) {
	d := dice{7}
	light := of(mark(run(1, 0, 1)), letter(97, run(1, 0, 1)), without(2, 0, run(1, 0, 1)), join(2, 0, run(1, 0, 1)), mark(alone(2)...))
	heavy := weighing(3, 425)
	for turn := range 8 {
		for _, all := range []int{8180, 8184, 8185, 8186, 8187, 8188, 8191, 8192, 8193, 8194, 8197} {
			l := d.adding(all, 350+9*turn)
			if weightOfAll(l) != all || len(l) > 64 {
				t.Fatalf("%d on paper weigh %d, not %d", len(l), weightOfAll(l), all)
			}
			goes := len(l)
			if all > 8192 {
				goes--
			}
			if p, e := Piece(l); !sameList(p, l[:goes]) || e != api.OK {
				t.Fatalf("Piece of %d that weigh %d: %d, %d", len(l), all, len(p), e)
			}
			for _, o := range light {
				tells(t, "a light one behind", slices.Concat(l, of(o)))
				tells(t, "light ones about a heavy one", slices.Concat(l, of(heavy, o)))
			}
			// A light one is not taken where a heavy one ahead of it does not go.
			if p, e := Piece(slices.Concat(l, of(heavy), light)); len(p) != goes || e != api.OK {
				t.Fatalf("Piece of %d that weigh %d, a heavy one, light ones: %d, %d", len(l), all, len(p), e)
			}
		}
	}
}

// P18.1, Piece: of 21 that weigh so much, and a light one behind them that goes, or does not.
func TestPieceTakesTheLastOneThatGoes(t *testing.T) {
	for _, c := range []struct {
		first int
		light api.Op
		want  int
	}{
		{187, mark(run(1, 0, 1)), 22}, {188, mark(run(1, 0, 1)), 21}, {192, mark(run(1, 0, 1)), 21}, {193, mark(run(1, 0, 1)), 20},
		{186, letter(97, run(1, 0, 1)), 22}, {187, letter(97, run(1, 0, 1)), 21},
		{185, without(2, 0, run(1, 0, 1)), 22}, {186, without(2, 0, run(1, 0, 1)), 21},
		{185, join(2, 0, run(1, 0, 1)), 22}, {186, join(2, 0, run(1, 0, 1)), 21},
	} {
		for kind := uint8(1); kind <= 4; kind++ {
			l := of(weighing(kind, c.first))
			for i := range 20 {
				l = append(l, weighing(uint8(1+i%4), 400))
			}
			l = append(l, c.light, mark(run(1, 0, 1)), mark(run(1, 0, 1)))
			if p, e := Piece(l[:22]); len(p) != c.want || e != api.OK {
				t.Errorf("Piece of one of %d, twenty of 400, and %v: %d, %d; want %d", c.first, c.light, len(p), e, c.want)
			}
			tells(t, "that, and more behind it", l)
		}
	}
}

// P18.1, Piece: marks and joins weigh in it as all others do.
func TestPieceWeighsTheDirectory(t *testing.T) {
	for kind := uint8(1); kind <= 4; kind++ {
		for _, n := range []int{130, 200, 300, 400, 410} {
			l := slices.Repeat(of(weighing(kind, n)), 70)
			if p, e := Piece(l); len(p) != 8192/n || e != api.OK {
				t.Errorf("Piece of those of kind %d that weigh %d: %d, %d; want %d", kind, n, len(p), e, 8192/n)
			}
		}
	}
	l := append(slices.Repeat(of(weighing(2, 400)), 20), slices.Repeat(of(letter(97, run(1, 0, 1))), 60)...)
	if p, e := Piece(l); len(p) != 20+192/6 || e != api.OK {
		t.Errorf("Piece of 20 heavy marks and 60 inserts: %d, %d", len(p), e)
	}
}

// cutOff cuts a list's pieces off, again and again, until nothing is left; each is asked to be as long as it may be, and no longer.
func cutOff(t *testing.T, l []api.Op) [][]api.Op {
	t.Helper()
	var pieces [][]api.Op
	for rest := l; len(rest) > 0; {
		p, e := Piece(rest)
		if e != api.OK || len(p) == 0 || len(p) > 64 || len(p) > len(rest) || weightOfAll(p) > 8192 {
			t.Fatalf("Piece of %d: %d that weigh %d, %d", len(rest), len(p), weightOfAll(p), e)
		}
		if n := len(p); n < min(len(rest), 64) && weightOfAll(rest[:n+1]) <= 8192 {
			t.Fatalf("Piece of %d: %d, though one more goes", len(rest), n)
		}
		pieces = append(pieces, p)
		rest = rest[len(p):]
	}
	return pieces
}

// P18.3: pieces that are cut off again and again are all operations, in order; each has at most 8192 bytes, and what its content weighs together is what all of it does.
func TestPiecesAreAll(t *testing.T) {
	d := dice{11}
	lists := [][]api.Op{nil, many(1), many(64), many(65), many(1023), many(1024), slices.Repeat(of(weighing(3, 425)), 1024), slices.Repeat(of(weighing(2, 5)), 1024), slices.Repeat(of(weighing(4, 128)), 1024), slices.Repeat(of(weighing(1, 129)), 1024)}
	for turn := range 60 {
		lists = append(lists, d.made(d.below(1025), []int{5, 12, 100, 200, 250, 425}[turn%6]))
	}
	byNumber, byWeight, byEnd := 0, 0, 0
	for _, l := range lists {
		pieces := cutOff(t, l)
		if !sameList(slices.Concat(pieces...), l) {
			t.Fatalf("the pieces of %d operations are not all of them, in order", len(l))
		}
		all, left := 0, len(l)
		for _, p := range pieces {
			n, e := Total(p)
			if e != api.OK {
				t.Fatalf("Total of a piece: %d", e)
			}
			all += n
			left -= len(p)
			switch {
			case len(p) == 64:
				byNumber++
			case left > 0:
				byWeight++
			default:
				byEnd++
			}
			if again, e := Piece(p); !sameList(again, p) || e != api.OK {
				t.Fatalf("the piece of a piece of %d: %d, %d", len(p), len(again), e)
			}
		}
		if n, e := Total(l); n != all || e != api.OK {
			t.Fatalf("Total of %d: %d, %d; of its pieces %d", len(l), n, e, all)
		}
	}
	if byNumber < 100 || byWeight < 100 || byEnd < 30 {
		t.Errorf("%d, %d, %d pieces ended by number, weight, end: too few to tell", byNumber, byWeight, byEnd)
	}
}

// P18.1, P18.3: all short lists of six operations, of each kind, and one that may not be.
func TestAllShortLists(t *testing.T) {
	six := of(letter(97, run(1, 0, 3)), mark(run(1, 0, 1)), without(9, 1, run(1, 0, 3)), join(9, 1, run(1, 0, 3), run(5, 2, 1)), weighing(3, 425), api.Op{})
	var fill func(l []api.Op, left int)
	fill = func(l []api.Op, left int) {
		tells(t, "short lists", l)
		if left == 0 {
			return
		}
		for _, o := range six {
			fill(append(slices.Clip(l), o), left-1)
		}
	}
	fill(nil, 5)
}

// P18.1, P18.3: made-up lists, in no order, some of them with one that may not be.
func TestMadeUpLists(t *testing.T) {
	d, wrong, refused := dice{13}, bad(), 0
	for turn := range 400 {
		l := d.made(d.below(200), []int{5, 12, 100, 200, 250, 425}[turn%6])
		if len(l) > 0 && d.below(4) == 0 {
			l[d.below(len(l))] = wrong[d.below(len(wrong))]
			refused++
		}
		tells(t, "made-up ones", l)
	}
	if refused < 50 {
		t.Errorf("only %d refused", refused)
	}
}

// held is a bag of so many made-up operations, of all kinds, at places under one another.
func held(seed uint32, many int) []api.Op {
	d := dice{seed}
	var l []api.Op
	places := [][]api.Run{nil}
	for time := uint32(0); len(l) < many; {
		time += uint32(1 + d.below(200))
		p := places[d.below(len(places))]
		o := api.Op{Kind: uint8(1 + d.below(4)), Id: by(time, uint8(d.below(8))), At: p}
		if o.Kind < 3 {
			o.At = append(slices.Clip(p), run(o.Id.T, o.Id.R, 1))
		}
		if o.Kind == 1 {
			o.Point = d.below(0xd800)
		}
		if !mayBe(o) {
			continue
		}
		if o.Kind < 3 {
			places = append(places, o.At)
		}
		l = append(l, o)
	}
	return l
}

// P18.3, V6: what content weighs grows by what comes, and by nothing else, whichever way it comes; what is let go because it would weigh too much leaves it at most the cap.
func TestTotalGrowsByWhatComes(t *testing.T) {
	for seed := range uint32(20) {
		var l []api.Op
		all, top := 0, 0
		ops := held(seed, 150)
		d := dice{seed}
		for range ops {
			i, j := d.below(len(ops)), d.below(len(ops))
			ops[i], ops[j] = ops[j], ops[i]
		}
		for _, o := range ops {
			with, e := bag.Add(l, o)
			if e != api.OK {
				t.Fatalf("seed %d, %v: %d", seed, o, e)
			}
			n, _ := Bytes(o)
			if o.Kind == 2 || o.Kind == 4 {
				n = 0
			}
			if total, e := Total(with); total != all+n || e != api.OK {
				t.Fatalf("seed %d: with %v %d, %d; want %d", seed, brief(o), total, e, all+n)
			}
			if again, e := Total(append(slices.Clone(l), o)); again != all+n || e != api.OK {
				t.Fatalf("seed %d: with %v at the end %d, %d; want %d", seed, brief(o), again, e, all+n)
			}
			if all+n > 900 {
				continue
			}
			l, all = with, all+n
			top = max(top, all)
		}
		if top > 900 || top < 800 {
			t.Errorf("seed %d: %d at most", seed, top)
		}
	}
}

// memory is a list's, with what lies around it: other operations, and, around each place, other runs.
type memory struct {
	ops    []api.Op
	places [][]api.Run
}

// lay is a list as it is, in memory where others are around.
func lay(l []api.Op) (memory, []api.Op) {
	m := memory{ops: slices.Concat(of(letter('a', run(1, 0, 1))), l, of(letter('b', run(1<<30, 6, 1)), letter('c', run(1<<30, 7, 1))))}
	for i, o := range l {
		p := slices.Concat(at(run(1, 0, 1)), o.At, at(run(9, 9, 9), run(8, 8, 8)))
		m.places = append(m.places, p)
		m.ops[1+i].At = p[1 : 1+len(o.At)]
	}
	return m, m.ops[1 : 1+len(l)]
}

// copied is a memory as it is now.
func (m memory) copied() memory {
	was := memory{ops: slices.Clone(m.ops)}
	for _, p := range m.places {
		was.places = append(was.places, slices.Clone(p))
	}
	return was
}

// same is whether nothing was changed: no number, and no place is another memory's.
func (m memory) same(was memory) bool {
	for i, p := range m.places {
		in := m.ops[1+i].At
		if !slices.Equal(p, was.places[i]) || len(in) > 0 && &in[0] != &p[1] {
			return false
		}
	}
	return sameList(m.ops, was.ops)
}

// spoil writes over all that a list and the places in it have room for.
func (m memory) spoil() {
	for _, p := range m.places {
		spoilPlace(p)
	}
	spoilList(m.ops)
}

// spoilPlace writes over all that a place has room for.
func spoilPlace(p []api.Run) {
	p = p[:cap(p)]
	for i := range p {
		p[i] = run(77, 7, 77)
	}
}

// spoilList writes over all that a list has room for, but not over its places.
func spoilList(l []api.Op) {
	l = l[:cap(l)]
	for i := range l {
		l[i] = letter('z', run(78, 6, 1))
	}
}

// someLists is lists of all lengths and kinds, such as may not be, too.
func someLists() [][]api.Op {
	d := dice{17}
	lists := [][]api.Op{nil, {}, many(1), many(2), many(9), many(63), many(64), many(65), many(1024), many(1025), d.made(40, 425), d.made(20, 12)}
	wrong := bad()
	for i := 0; i < len(wrong); i += 17 {
		lists = append(lists, of(wrong[i]), append(many(3), wrong[i]), append(of(wrong[i]), many(66)...))
	}
	return lists
}

// P18.2: what is handed in is only read, by each call, such as is refused, too, and what lies around it in memory.
func TestOnlyReads(t *testing.T) {
	for _, l := range someLists() {
		m, in := lay(l)
		was := m.copied()
		tells(t, "a list in memory", in)
		for _, o := range in[:min(len(in), 70)] {
			weighs(t, o)
		}
		if !m.same(was) || !sameList(in, l) {
			t.Fatalf("a list of %d is turned", len(l))
		}
	}
	for _, o := range append(good(), bad()...) {
		m, in := lay(of(o))
		was := m.copied()
		weighs(t, in[0])
		if !m.same(was) {
			t.Fatalf("%v is turned", brief(o))
		}
	}
}

// P18.2: a piece is new memory, its places too, of the list's and of another piece's: each stays as it is when the other one is changed, and the list does.
func TestPiecesAreNewMemory(t *testing.T) {
	for _, l := range someLists() {
		m, in := lay(l)
		was := m.copied()
		one, _ := Piece(in)
		two, _ := Piece(in)
		want := []api.Op{}
		for _, o := range two {
			want = append(want, op.Twin(o))
		}
		for i := range one {
			spoilPlace(one[i].At)
			if !sameList(one[i+1:], want[i+1:]) {
				t.Fatalf("two places of a piece of %d share memory", len(one))
			}
		}
		spoilList(one)
		if !m.same(was) || !sameList(two, want) {
			t.Fatalf("a piece of %d shares memory", len(one))
		}
		if three, _ := Piece(in); !sameList(three, want) {
			t.Fatalf("a piece of %d, again: %d", len(want), len(three))
		}
		m.spoil()
		if !sameList(two, want) {
			t.Fatalf("a piece of %d changes with what was handed in", len(two))
		}
	}
}

// P18.2: the same operation twice, in the same memory, is two in a piece.
func TestTwiceIsTwoPlaces(t *testing.T) {
	for _, o := range of(letter(97, run(1, 0, 3)), mark(alone(64)...), without(9, 1, run(1, 0, 3)), join(900, 1, alone(64)...)) {
		was := op.Twin(o)
		p, e := Piece(of(o, o, o))
		if len(p) != 3 || e != api.OK {
			t.Fatalf("Piece of %v, three times: %d, %d", brief(o), len(p), e)
		}
		spoilPlace(p[1].At)
		if !op.Same(p[0], was) || !op.Same(p[2], was) || !op.Same(o, was) {
			t.Errorf("%v, three times, shares memory in a piece", brief(was))
		}
	}
}

// P1, P2, P18.2: nothing is kept from call to call: not a list that is changed behind the call, not a weight, not an error.
func TestKeepsNothing(t *testing.T) {
	l := many(30)
	for _, other := range append(someLists(), slices.Repeat(of(weighing(3, 425)), 100), make([]api.Op, 2000)) {
		Total(other)
		Piece(other)
		for _, o := range other[:min(len(other), 3)] {
			Bytes(o)
		}
		tells(t, "what was asked ahead", l)
		tells(t, "none", nil)
		weighs(t, l[3])
		if p, e := Piece(l); e == api.OK {
			clear(p)
		}
		tells(t, "what was asked ahead", l)
	}
	// The list in the same memory as it was.
	for i, o := range append(good()[:60], bad()[:60]...) {
		l[i%30] = o
		tells(t, "a list that is turned", l)
	}
	p := at(run(1, 0, 3), run(5, 2, 1))
	o := without(900, 1, p...)
	for n := range 200 {
		o.At[1].T = uint32(3 + n)
		weighs(t, o)
		tells(t, "a place that is turned", of(o, o))
	}
}

// opsFrom is a list of what bytes tell: each five a kind, how many runs, the bytes that a time has, a replica, and what stands behind the place.
func opsFrom(b []byte) []api.Op {
	var l []api.Op
	for ; len(b) >= 5; b = b[5:] {
		o := api.Op{Kind: b[0] % 6}
		for i := range int(b[1]) % 67 {
			size := 1 + int(b[2])%5
			if i > 2 {
				size = min(size, 4)
			}
			o.At = append(o.At, run(endOf(o.At).T+uint32(least(size)+int(b[2])/5), (b[3]+uint8(i%2))%9, 1+int(b[4])%67))
		}
		o.Id = endOf(o.At)
		switch {
		case o.Kind == 1:
			o.Point = int(b[4]) * 4400
		case o.Kind > 2:
			o.Id = by(o.Id.T+uint32(b[4]), b[3]%9)
		}
		l = append(l, o)
	}
	return l
}

// P1, P18.1 to P18.3: whatever list, so many times over, such as may not be too.
func FuzzPiece(f *testing.F) {
	f.Add([]byte{1, 1, 0, 0, 3, 2, 1, 0, 1, 0, 3, 2, 5, 1, 9, 4, 2, 5, 1, 9}, uint16(1))
	f.Add([]byte{3, 64, 3, 1, 9, 2, 64, 3, 0, 1}, uint16(40))
	f.Add([]byte{1, 40, 1, 0, 0}, uint16(1024))
	f.Add([]byte{1, 1, 0, 0, 0}, uint16(1025))
	f.Add([]byte{5, 1, 0, 0, 0}, uint16(1025))
	f.Add([]byte{1, 64, 4, 0, 255, 1, 0, 0, 0, 0}, uint16(2))
	f.Fuzz(func(t *testing.T, b []byte, times uint16) {
		l := opsFrom(b[:min(len(b), 400)])
		for _, o := range l {
			weighs(t, o)
		}
		l = slices.Repeat(l, int(times%1100))
		l = l[:min(len(l), 1100)]
		m, in := lay(l)
		was := m.copied()
		tells(t, "a list of bytes", in)
		if refusalInWords(in) == api.OK && !sameList(slices.Concat(cutOff(t, in)...), l) {
			t.Fatalf("the pieces of %d operations are not all of them, in order", len(l))
		}
		if !m.same(was) {
			t.Fatalf("a list of %d is turned", len(l))
		}
	})
}

// P1, P18.1, P18.3: whatever operation.
func FuzzBytes(f *testing.F) {
	f.Add(uint8(1), uint32(3), uint8(0), uint32(1), uint8(0), 3, 97)
	f.Add(uint8(2), uint32(1<<30), uint8(7), uint32(1<<30), uint8(7), 1, 0)
	f.Add(uint8(3), uint32(9), uint8(1), uint32(1), uint8(0), 4096, 0)
	f.Add(uint8(4), uint32(1<<30), uint8(1), uint32(1), uint8(0), 1, 0)
	f.Add(uint8(5), uint32(0), uint8(8), uint32(math.MaxUint32), uint8(9), math.MaxInt, -1)
	f.Fuzz(func(t *testing.T, kind uint8, time uint32, r uint8, from uint32, s uint8, many, n int) {
		for _, p := range [][]api.Run{at(run(from, s, many)), append(alone(63), run(from, s, many)), at(run(from, s, many), run(time, r, 1)), nil} {
			for _, o := range of(api.Op{Kind: kind, Id: by(time, r), At: p, Point: n}, api.Op{Kind: kind, Id: endOf(p), At: p, Point: n}, letter(n, p...), mark(p...), without(time, r, p...), join(time, r, p...)) {
				weighs(t, o)
				tells(t, "one, twice", of(o, o))
				if n, e := Bytes(o); e == api.OK && (n < 5 || n > 800) {
					t.Fatalf("Bytes of %v: %d", o, n)
				}
			}
		}
	})
}

// P18.1: the chapter's own examples.
func TestExamples(t *testing.T) {
	a, m, d := letter(97, run(1, 0, 3)), mark(run(1, 0, 1)), without(9, 1, run(1, 0, 3))
	if n, e := Bytes(a); n != 6 || e != api.OK {
		t.Errorf("Bytes of an insert: %d, %d", n, e)
	}
	if n, e := Total(of(a, m, d)); n != 13 || e != api.OK {
		t.Errorf("Total of an insert, a mark, a delete: %d, %d", n, e)
	}
	if p, e := Piece(slices.Repeat(of(a), 70)); len(p) != 64 || e != api.OK {
		t.Errorf("Piece of 70 inserts: %d, %d", len(p), e)
	}
	if n, e := Bytes(api.Op{}); n != 0 || e != api.ErrBad {
		t.Errorf("Bytes of zero: %d, %d", n, e)
	}
	if n, e := Total(slices.Repeat(of(a), 1025)); n != 0 || e != api.ErrMany {
		t.Errorf("Total of 1025: %d, %d", n, e)
	}
}
