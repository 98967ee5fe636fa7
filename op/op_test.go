package op

import (
	"math"
	"slices"
	"testing"

	"octavo/api"
)

// kinds is those that there are, and some that there are not.
var kinds = []uint8{0, 1, 2, 3, 4, 5, 6, 7, 127, 128, 129, 132, 254, 255}

// run is so many stamps by r from t on.
func run(t uint32, r uint8, many int) api.Run {
	return api.Run{T: t, R: r, Many: many}
}

// of is a place of some runs.
func of(l ...api.Run) []api.Run {
	return l
}

// by is a stamp.
func by(t uint32, r uint8) api.Id {
	return api.Id{T: t, R: r}
}

// alone is so many runs of one stamp, by two replicas in turn.
func alone(many int) []api.Run {
	var p []api.Run
	for i := range many {
		p = append(p, run(uint32(i+1), uint8(i%2), 1))
	}
	return p
}

// stampMayBe is what stamps that may be are, by the words of chapter 5.
func stampMayBe(a api.Id) bool {
	return a.T >= 1 && a.T <= 1<<30 && a.R <= 7
}

// endOf is the last time of a run; an int has room for it, if it has not too many.
func endOf(r api.Run) int {
	return int(r.T) + r.Many - 1
}

// placeMayBe is what places that may be are, by the words of chapter 6.
func placeMayBe(p []api.Run) bool {
	if len(p) < 1 || len(p) > 64 {
		return false
	}
	many := 0
	for i, r := range p {
		if r.R > 7 || r.T < 1 || r.Many < 1 || r.Many > 4096 || endOf(r) > 1<<30 {
			return false
		}
		if i > 0 && (int(r.T) <= endOf(p[i-1]) || r.R == p[i-1].R && int(r.T) == endOf(p[i-1])+1) {
			return false
		}
		many += r.Many
	}
	return many <= 4096
}

// pointMayBe is what code points are, by the words of chapter 4.
func pointMayBe(n int) bool {
	return n >= 0 && n < 0xd800 || n > 0xdfff && n <= 0x10ffff
}

// mayBe is what operations that may be are, by the chapter's words.
func mayBe(o api.Op) bool {
	if !stampMayBe(o.Id) || !placeMayBe(o.At) {
		return false
	}
	end := o.At[len(o.At)-1]
	switch o.Kind {
	case 1:
		return int(o.Id.T) == endOf(end) && o.Id.R == end.R && pointMayBe(o.Point)
	case 2:
		return int(o.Id.T) == endOf(end) && o.Id.R == end.R && o.Point == 0
	case 3, 4:
		return int(o.Id.T) > endOf(end) && o.Point == 0
	}
	return false
}

// stamps is those of a place that may be, one by one.
func stamps(p []api.Run) []api.Id {
	var l []api.Id
	for _, r := range p {
		for t := int(r.T); t <= endOf(r); t++ {
			l = append(l, by(uint32(t), r.R))
		}
	}
	return l
}

// written is the runs of stamps whose times rise, as few as can be.
func written(l []api.Id) []api.Run {
	var p []api.Run
	for i, a := range l {
		if i > 0 && a == by(l[i-1].T+1, l[i-1].R) {
			p[len(p)-1].Many++
		} else {
			p = append(p, run(a.T, a.R, 1))
		}
	}
	return p
}

// needsInWords is what Needs has to answer.
func needsInWords(o api.Op) ([]api.Id, api.Errno) {
	if !mayBe(o) {
		return nil, api.ErrBad
	}
	l := stamps(o.At)
	if o.Kind == 1 || o.Kind == 2 {
		l = l[:len(l)-1]
	}
	return l, api.OK
}

// equal is whether two operations are the same in all fields.
func equal(a, b api.Op) bool {
	return a.Kind == b.Kind && a.Id == b.Id && a.Point == b.Point && slices.Equal(a.At, b.At)
}

// goodPlaces is places of the edges, all of which may be.
func goodPlaces() [][]api.Run {
	l := [][]api.Run{
		of(run(1, 0, 1)), of(run(1, 7, 1)), of(run(2, 0, 1)), of(run(1, 0, 3)), of(run(3, 0, 1)), of(run(5, 3, 4)),
		of(run(1, 0, 4095)), of(run(1, 0, 4096)), of(run(9, 7, 4096)), of(run(1<<30-1, 3, 1)), of(run(1<<30, 3, 1)), of(run(1<<30, 7, 1)), of(run(1<<30-1, 0, 2)), of(run(1<<30-4096, 2, 4096)), of(run(1<<30-4095, 2, 4096)),
		of(run(1, 0, 3), run(5, 2, 1)), of(run(2, 1, 2), run(7, 0, 1)), of(run(1, 0, 2), run(3, 1, 1)), of(run(1, 0, 2), run(4, 0, 1)), of(run(1, 0, 1), run(2, 7, 1), run(3, 0, 5)), of(run(1, 5, 1), run(1<<30, 5, 1)), of(run(255, 0, 2), run(258, 0, 300)),
		of(run(1, 0, 2048), run(2049, 1, 2048)), of(run(1, 0, 4095), run(4096, 3, 1)), of(run(1, 3, 1), run(2, 0, 4095)),
		alone(63), alone(64), append(alone(63), run(64, 1, 4033)),
	}
	return append(l, smallPlaces()...)
}

// smallPlaces is all places of the times 1 to 3, by three replicas.
func smallPlaces() [][]api.Run {
	all := [][]api.Id{nil}
	for t := range 3 {
		for _, l := range all {
			for r := range 3 {
				all = append(all, append(slices.Clip(l), by(uint32(t+1), uint8(r*3))))
			}
		}
	}
	var out [][]api.Run
	for _, l := range all[1:] {
		out = append(out, written(l))
	}
	return out
}

// badPlaces is the beginning, and lists that may not be.
func badPlaces() [][]api.Run {
	return [][]api.Run{
		nil, {}, of(api.Run{}), of(run(0, 0, 1)), of(run(0, 0, 3)), of(run(3, 0, 0)), of(run(3, 0, -1)), of(run(3, 0, math.MinInt)), of(run(1, 0, 4097)), of(run(3, 0, 1<<32+1)), of(run(3, 0, math.MaxInt)),
		of(run(3, 8, 1)), of(run(3, 255, 1)), of(run(1<<30+1, 0, 1)), of(run(1<<30, 0, 2)), of(run(1<<31, 0, 1)), of(run(math.MaxUint32, 0, 1)), of(run(math.MaxUint32, 0, 4)),
		of(run(1, 0, 2), run(3, 0, 1)), of(run(1, 0, 2), run(2, 1, 1)), of(run(1, 0, 2), run(2, 0, 1)), of(run(4, 0, 1), run(3, 0, 1)), of(run(4, 0, 1), run(3, 1, 1)), of(run(1, 0, 2), api.Run{}), of(api.Run{}, run(3, 0, 1)), of(run(1, 8, 2), run(3, 0, 1)),
		of(run(1, 0, 2048), run(2049, 1, 2049)), of(run(1, 0, 4096), run(4097, 1, 1)), alone(65), append(alone(63), run(64, 1, 4034)), slices.Repeat(of(run(3, 0, 1)), 1<<12), make([]api.Run, 64),
	}
}

// stampsAbout is stamps of the edges, and those of a place, and what is right beside its last one.
func stampsAbout(p []api.Run) []api.Id {
	l := []api.Id{
		by(0, 0), by(0, 1), by(1, 0), by(1, 7), by(1, 8), by(2, 0), by(3, 0), by(3, 1), by(3, 255), by(4, 0), by(4, 7),
		by(1<<30-1, 0), by(1<<30, 0), by(1<<30, 7), by(1<<30, 8), by(1<<30+1, 0), by(1<<31, 0), by(math.MaxUint32, 3), by(math.MaxUint32, 255),
	}
	if len(p) == 0 {
		return l
	}
	first, last := p[0], p[len(p)-1]
	end := last.T + uint32(last.Many-1)
	for _, t := range []uint32{end - 1, end, end + 1, end + 2, end + 1<<31, last.T, first.T} {
		for _, r := range []uint8{last.R, first.R, last.R - 1, last.R + 1, last.R + 8, 0, 7} {
			l = append(l, by(t, r))
		}
	}
	return l
}

// points is code points of the edges, and numbers that are none.
func points() []int {
	return []int{0, 1, 97, 0xd7ff, 0xd800, 0xdbff, 0xdfff, 0xe000, 0xfffd, 0x10ffff, 0x110000, -1, -97, math.MinInt, math.MaxInt, 1 << 31, 1 << 32, 1<<32 + 97, 1 << 40}
}

// each goes through operations of all kinds, stamps and points at a place.
func each(p []api.Run, do func(o api.Op)) {
	for _, kind := range kinds {
		for _, id := range stampsAbout(p) {
			for _, point := range points() {
				do(api.Op{Kind: kind, Id: id, At: p, Point: point})
			}
		}
	}
}

// good is operations of all kinds, all of which may be.
func good() []api.Op {
	var l []api.Op
	for _, p := range goodPlaces() {
		end := p[len(p)-1]
		last := by(uint32(endOf(end)), end.R)
		l = append(l, api.Op{Kind: 1, Id: last, At: p}, api.Op{Kind: 1, Id: last, At: p, Point: 0x20ac}, api.Op{Kind: 2, Id: last, At: p})
		if last.T == 1<<30 {
			continue
		}
		for _, id := range []api.Id{by(last.T+1, last.R), by(last.T+1, 7-last.R), by(1<<30, 4)} {
			l = append(l, api.Op{Kind: 3, Id: id, At: p}, api.Op{Kind: 4, Id: id, At: p})
		}
	}
	return l
}

// some is operations of which some may be, and some not.
func some() []api.Op {
	l := []api.Op{{}, {Kind: 1}, {Id: by(3, 0)}, {Point: 97}, {Kind: 255, Id: by(math.MaxUint32, 255), Point: math.MinInt}}
	for i, p := range slices.Concat(goodPlaces()[:30], badPlaces()) {
		l = append(l, api.Op{Kind: uint8(i % 6), Id: by(uint32(i), uint8(i%10)), At: p, Point: i * i * i * i})
	}
	return append(l, good()[:40]...)
}

// brief is an operation that is short enough to be told.
func brief(o api.Op) api.Op {
	o.At = o.At[:min(len(o.At), 5)]
	return o
}

// wellOr is the error, unless it is well.
func wellOr(well bool, e api.Errno) api.Errno {
	if well {
		return api.OK
	}
	return e
}

func checks(t *testing.T, o api.Op) {
	t.Helper()
	if e, want := Check(o), wellOr(mayBe(o), api.ErrBad); e != want {
		t.Fatalf("Check of %v with %d runs: %d; want %d", brief(o), len(o.At), e, want)
	}
}

func needs(t *testing.T, o api.Op) {
	t.Helper()
	want, refusal := needsInWords(o)
	if l, e := Needs(o); e != refusal || !slices.Equal(l, want) {
		t.Fatalf("Needs of %v with %d runs: %d stamps, %v, %d; want %d, %v, %d", brief(o), len(o.At), len(l), l[:min(len(l), 9)], e, len(want), want[:min(len(want), 9)], refusal)
	}
}

// P9.1, P9.2: the edges that the chapter names, one by one.
func TestCheckAndNeedsTellKnown(t *testing.T) {
	one, run3, two := of(run(5, 2, 1)), of(run(1, 0, 3)), of(run(1, 0, 3), run(5, 2, 1))
	all := []api.Id{by(1, 0), by(2, 0), by(3, 0), by(5, 2)}
	for _, c := range []struct {
		what  string
		o     api.Op
		want  api.Errno
		needs []api.Id
	}{
		{"an insert", api.Op{Kind: api.OpInsert, Id: by(3, 0), At: run3, Point: 97}, api.OK, all[:2]},
		{"an insert of 0", api.Op{Kind: api.OpInsert, Id: by(3, 0), At: run3}, api.OK, all[:2]},
		{"an insert of MaxPoint", api.Op{Kind: api.OpInsert, Id: by(3, 0), At: run3, Point: 0x10ffff}, api.OK, all[:2]},
		{"an insert of more", api.Op{Kind: api.OpInsert, Id: by(3, 0), At: run3, Point: 0x110000}, api.ErrBad, nil},
		{"an insert of less than 0", api.Op{Kind: api.OpInsert, Id: by(3, 0), At: run3, Point: -1}, api.ErrBad, nil},
		{"an insert ahead of the surrogates", api.Op{Kind: api.OpInsert, Id: by(3, 0), At: run3, Point: 0xd7ff}, api.OK, all[:2]},
		{"an insert of the first surrogate", api.Op{Kind: api.OpInsert, Id: by(3, 0), At: run3, Point: 0xd800}, api.ErrBad, nil},
		{"an insert of the last surrogate", api.Op{Kind: api.OpInsert, Id: by(3, 0), At: run3, Point: 0xdfff}, api.ErrBad, nil},
		{"an insert behind the surrogates", api.Op{Kind: api.OpInsert, Id: by(3, 0), At: run3, Point: 0xe000}, api.OK, all[:2]},
		{"an insert by another one of its place", api.Op{Kind: api.OpInsert, Id: by(2, 0), At: run3, Point: 97}, api.ErrBad, nil},
		{"an insert by the first one of its place", api.Op{Kind: api.OpInsert, Id: by(1, 0), At: two, Point: 97}, api.ErrBad, nil},
		{"an insert by the last run's replica", api.Op{Kind: api.OpInsert, Id: by(3, 2), At: two, Point: 97}, api.ErrBad, nil},
		{"an insert by none of its place", api.Op{Kind: api.OpInsert, Id: by(4, 0), At: run3, Point: 97}, api.ErrBad, nil},
		{"an insert by another replica", api.Op{Kind: api.OpInsert, Id: by(3, 1), At: run3, Point: 97}, api.ErrBad, nil},
		{"an insert at the beginning", api.Op{Kind: api.OpInsert, Id: by(3, 0), Point: 97}, api.ErrBad, nil},
		{"an insert by the zero stamp", api.Op{Kind: api.OpInsert, At: run3, Point: 97}, api.ErrBad, nil},
		{"an insert by the zero stamp, at the beginning", api.Op{Kind: api.OpInsert, Point: 97}, api.ErrBad, nil},
		{"an insert at two runs", api.Op{Kind: api.OpInsert, Id: by(5, 2), At: two, Point: 97}, api.OK, all[:3]},
		{"an insert at one stamp", api.Op{Kind: api.OpInsert, Id: by(5, 2), At: one, Point: 97}, api.OK, nil},
		{"a mark", api.Op{Kind: api.OpMark, Id: by(3, 0), At: run3}, api.OK, all[:2]},
		{"a mark with a point", api.Op{Kind: api.OpMark, Id: by(3, 0), At: run3, Point: 1}, api.ErrBad, nil},
		{"a mark with a point below 0", api.Op{Kind: api.OpMark, Id: by(3, 0), At: run3, Point: -1}, api.ErrBad, nil},
		{"a mark by another one of its place", api.Op{Kind: api.OpMark, Id: by(1, 0), At: run3}, api.ErrBad, nil},
		{"a mark by none of its place", api.Op{Kind: api.OpMark, Id: by(4, 0), At: run3}, api.ErrBad, nil},
		{"a mark by another replica", api.Op{Kind: api.OpMark, Id: by(3, 7), At: run3}, api.ErrBad, nil},
		{"a mark at one stamp", api.Op{Kind: api.OpMark, Id: by(5, 2), At: one}, api.OK, nil},
		{"a mark at two runs", api.Op{Kind: api.OpMark, Id: by(5, 2), At: two}, api.OK, all[:3]},
		{"a delete one older", api.Op{Kind: api.OpDelete, Id: by(4, 7), At: two}, api.ErrBad, nil},
		{"a delete as old", api.Op{Kind: api.OpDelete, Id: by(5, 2), At: two}, api.ErrBad, nil},
		{"a delete as old, by a greater replica", api.Op{Kind: api.OpDelete, Id: by(5, 7), At: two}, api.ErrBad, nil},
		{"a delete one younger", api.Op{Kind: api.OpDelete, Id: by(6, 0), At: two}, api.OK, all},
		{"a delete one younger, by the same replica", api.Op{Kind: api.OpDelete, Id: by(6, 2), At: two}, api.OK, all},
		{"a delete of the last time", api.Op{Kind: api.OpDelete, Id: by(1<<30, 7), At: two}, api.OK, all},
		{"a delete behind the last time", api.Op{Kind: api.OpDelete, Id: by(1<<30+1, 0), At: two}, api.ErrBad, nil},
		{"a delete by no replica", api.Op{Kind: api.OpDelete, Id: by(6, 8), At: two}, api.ErrBad, nil},
		{"a delete with a point", api.Op{Kind: api.OpDelete, Id: by(6, 0), At: two, Point: 97}, api.ErrBad, nil},
		{"a delete of the beginning", api.Op{Kind: api.OpDelete, Id: by(6, 0)}, api.ErrBad, nil},
		{"a delete at one stamp", api.Op{Kind: api.OpDelete, Id: by(6, 0), At: one}, api.OK, all[3:]},
		{"a join one older", api.Op{Kind: api.OpJoin, Id: by(2, 1), At: run3}, api.ErrBad, nil},
		{"a join as old", api.Op{Kind: api.OpJoin, Id: by(3, 1), At: run3}, api.ErrBad, nil},
		{"a join one younger", api.Op{Kind: api.OpJoin, Id: by(4, 1), At: run3}, api.OK, all[:3]},
		{"a join with a point", api.Op{Kind: api.OpJoin, Id: by(4, 1), At: run3, Point: 1}, api.ErrBad, nil},
		{"a join of the beginning", api.Op{Kind: api.OpJoin, Id: by(4, 1), At: of()}, api.ErrBad, nil},
		{"kind 0, as an insert", api.Op{Kind: 0, Id: by(3, 0), At: run3}, api.ErrBad, nil},
		{"kind 0, as a delete", api.Op{Kind: 0, Id: by(4, 0), At: run3}, api.ErrBad, nil},
		{"kind 5, as an insert", api.Op{Kind: 5, Id: by(3, 0), At: run3}, api.ErrBad, nil},
		{"kind 5, as a delete", api.Op{Kind: 5, Id: by(4, 0), At: run3}, api.ErrBad, nil},
		{"kind 255, as an insert", api.Op{Kind: 255, Id: by(3, 0), At: run3}, api.ErrBad, nil},
		{"kind 255, as a delete", api.Op{Kind: 255, Id: by(4, 0), At: run3}, api.ErrBad, nil},
		{"an insert at a place that may not be", api.Op{Kind: api.OpInsert, Id: by(3, 0), At: of(run(1, 0, 2), run(3, 0, 1)), Point: 97}, api.ErrBad, nil},
		{"a delete at a place that may not be", api.Op{Kind: api.OpDelete, Id: by(9, 0), At: of(run(0, 0, 2))}, api.ErrBad, nil},
	} {
		if e := Check(c.o); e != c.want {
			t.Errorf("Check of %s: %d; want %d", c.what, e, c.want)
		}
		if l, e := Needs(c.o); e != c.want || !slices.Equal(l, c.needs) {
			t.Errorf("Needs of %s: %v, %d; want %v, %d", c.what, l, e, c.needs, c.want)
		}
	}
}

// P9.1, Check: all kinds, stamps and points at places of the edges, such as may not be too.
func TestCheckTellsAll(t *testing.T) {
	for _, p := range slices.Concat(goodPlaces(), badPlaces()) {
		each(p, func(o api.Op) { checks(t, o) })
	}
}

// P9.1, Check: each number a kind may be, of what may be an insert, a mark or a delete.
func TestCheckTellsKinds(t *testing.T) {
	for kind := range 256 {
		for _, id := range []api.Id{by(3, 0), by(4, 0), by(4, 7)} {
			for _, point := range []int{0, 1, 97} {
				o := api.Op{Kind: uint8(kind), Id: id, At: of(run(1, 0, 3)), Point: point}
				checks(t, o)
				needs(t, o)
			}
		}
	}
}

// P9.1, Check: all times and replicas about each small place.
func TestCheckTellsSmall(t *testing.T) {
	for _, p := range smallPlaces() {
		for kind := range uint8(6) {
			for at := range uint32(6) {
				for r := range uint8(9) {
					for point := range 2 {
						o := api.Op{Kind: kind, Id: by(at, r), At: p, Point: point}
						checks(t, o)
						needs(t, o)
					}
				}
			}
		}
	}
}

// P9.1, Check: what an insert may hold, all about the edges of what a code point is.
func TestCheckTellsPoints(t *testing.T) {
	for _, at := range []int{0, 0x80, 0x800, 0xd800, 0xdc00, 0xe000, 0xffff, 0x10000, 0x110000, 1 << 31, 1 << 32} {
		for n := at - 300; n <= at+300; n++ {
			for kind := range uint8(5) {
				checks(t, api.Op{Kind: kind, Id: by(3, 0), At: of(run(1, 0, 3)), Point: n})
				checks(t, api.Op{Kind: kind, Id: by(4, 0), At: of(run(1, 0, 3)), Point: n})
			}
		}
	}
}

// P9.1, Check: operations that are known to be may be.
func TestCheckTakesGood(t *testing.T) {
	for _, o := range good() {
		if e := Check(o); e != api.OK || !mayBe(o) {
			t.Errorf("Check of %v: %d", brief(o), e)
		}
	}
}

// P9.1, Content: by the kind alone, of any ones.
func TestContentTellsKinds(t *testing.T) {
	for kind := range 256 {
		for _, o := range some() {
			o.Kind = uint8(kind)
			if is, want := Content(o), kind == 1 || kind == 3; is != want {
				t.Fatalf("Content of %v: %t; want %t", brief(o), is, want)
			}
		}
	}
}

// P9.1, Same and Twin: of any ones, such as may not be too.
func TestSameAndTwin(t *testing.T) {
	l := some()
	for _, a := range l {
		for _, b := range l {
			if want := equal(a, b); Same(a, b) != want || Same(b, a) != want {
				t.Fatalf("Same of %v, %v: %t", brief(a), brief(b), !want)
			}
		}
		b := Twin(a)
		if !equal(a, b) || !Same(a, b) || !Same(b, a) {
			t.Fatalf("Twin of %v: %v", brief(a), brief(b))
		}
		turned(t, a)
	}
	if a, b := (api.Op{Kind: 9, At: nil}), (api.Op{Kind: 9, At: of()}); !Same(a, b) || !Same(b, a) || !Same(a, Twin(b)) {
		t.Error("the beginning without runs and nil are not the same")
	}
}

// turned asks whether an operation is the same with one thing changed.
func turned(t *testing.T, o api.Op) {
	t.Helper()
	unlike := func(turn func(b *api.Op)) {
		t.Helper()
		b := o
		b.At = slices.Clone(o.At)
		turn(&b)
		if Same(o, b) || Same(b, o) || Same(Twin(o), Twin(b)) {
			t.Fatalf("Same of %v, and of that with one thing turned, %v", brief(o), brief(b))
		}
	}
	unlike(func(b *api.Op) { b.Kind++ })
	unlike(func(b *api.Op) { b.Kind ^= 128 })
	unlike(func(b *api.Op) { b.Id.T++ })
	unlike(func(b *api.Op) { b.Id.T ^= 1 << 31 })
	unlike(func(b *api.Op) { b.Id.R++ })
	unlike(func(b *api.Op) { b.Id.R ^= 128 })
	unlike(func(b *api.Op) { b.Point++ })
	unlike(func(b *api.Op) { b.Point = -1 - b.Point })
	unlike(func(b *api.Op) { b.Point ^= 1 << 40 })
	unlike(func(b *api.Op) { b.At = append(b.At, run(1<<30, 7, 1)) })
	unlike(func(b *api.Op) { b.At = append(of(api.Run{}), b.At...) })
	many := len(o.At)
	if many == 0 {
		return
	}
	unlike(func(b *api.Op) { b.At = nil })
	unlike(func(b *api.Op) { b.At = b.At[1:] })
	unlike(func(b *api.Op) { b.At = b.At[:many-1] })
	for _, i := range []int{0, many / 2, many - 1} {
		unlike(func(b *api.Op) { b.At[i].T++ })
		unlike(func(b *api.Op) { b.At[i].R ^= 1 })
		unlike(func(b *api.Op) { b.At[i].Many-- })
	}
}

// P9.2, Needs: all kinds, stamps and points at places of the edges, such as may not be too.
func TestNeedsTellAll(t *testing.T) {
	for _, p := range slices.Concat(goodPlaces(), badPlaces()) {
		if placeMayBe(p) && len(stamps(p)) > 1000 {
			continue
		}
		each(p, func(o api.Op) { needs(t, o) })
	}
}

// P9.2, Needs: of places of one stamp, of runs, of many stamps, whatever their kind.
func TestNeedsOfGood(t *testing.T) {
	for _, o := range good() {
		needs(t, o)
	}
	for _, many := range []int{1, 2, 4095, 4096} {
		p := of(run(7, 3, many))
		last := uint32(6 + many)
		for _, c := range []struct {
			o    api.Op
			want int
		}{
			{api.Op{Kind: api.OpInsert, Id: by(last, 3), At: p, Point: 97}, many - 1}, {api.Op{Kind: api.OpMark, Id: by(last, 3), At: p}, many - 1},
			{api.Op{Kind: api.OpDelete, Id: by(last+1, 3), At: p}, many}, {api.Op{Kind: api.OpJoin, Id: by(1<<30, 0), At: p}, many},
		} {
			if l, e := Needs(c.o); e != api.OK || len(l) != c.want {
				t.Errorf("Needs of %v: %d stamps, %d; want %d", c.o, len(l), e, c.want)
			}
		}
	}
}

// P9.4: what an operation stands on rises, is older than it, and needs less: all that one of these stands on is among them.
func TestNeedsAreOlderAndNeedLess(t *testing.T) {
	for _, o := range good() {
		l, e := Needs(o)
		if e != api.OK {
			t.Fatalf("Needs of %v: %d", brief(o), e)
		}
		for i, a := range l {
			if a.T >= o.Id.T || i > 0 && a.T <= l[i-1].T {
				t.Fatalf("%v stands on %v, which does not rise, or is not older", brief(o), a)
			}
		}
		for i := 0; i < len(l); i += 1 + len(l)/40 {
			standsOn(t, o, l, i)
		}
	}
}

// standsOn asks what one stamp of an operation's needs stands on, as an insert and as a mark: those ahead of it, fewer than the operation's.
func standsOn(t *testing.T, o api.Op, l []api.Id, i int) {
	t.Helper()
	p := written(l[:i+1])
	for _, under := range []api.Op{{Kind: api.OpInsert, Id: l[i], At: p, Point: 97}, {Kind: api.OpMark, Id: l[i], At: p}} {
		k, e := Needs(under)
		if e != api.OK || len(k) >= len(l) || !slices.Equal(k, l[:i]) {
			t.Fatalf("%v stands on %v, which needs %d stamps, %d", brief(o), brief(under), len(k), e)
		}
	}
}

// within is an operation whose place has others around it in its memory.
func within(o api.Op) (around []api.Run, in api.Op) {
	around = slices.Concat(of(run(3, 0, 1)), o.At, of(run(9, 9, 9), run(8, 8, 8)))
	in = o
	in.At = around[1 : 1+len(o.At)]
	return around, in
}

// spoil writes over all that a place has room for.
func spoil(p []api.Run) {
	p = p[:cap(p)]
	for i := range p {
		p[i] = run(77, 7, 77)
	}
}

// P9.3: what is handed in is only read, what lies around its place in memory too, and tells nothing.
func TestOnlyReads(t *testing.T) {
	for _, o := range append(good(), some()...) {
		around, a := within(o)
		was := slices.Clone(around)
		other, b := within(o)
		checks(t, a)
		needs(t, a)
		if !Same(a, b) || !Same(a, a) || !equal(Twin(a), o) || Content(a) != Content(o) {
			t.Fatalf("%v is another one where others are around its place", brief(o))
		}
		if !slices.Equal(around, was) || !slices.Equal(other, was) || !equal(a, o) {
			t.Fatalf("%v is turned", brief(o))
		}
	}
}

// P9.3: a twin is new memory: what is handed in may be changed behind the call, and the answer, the place in it too, by its caller.
func TestTwinIsNewMemory(t *testing.T) {
	for _, o := range append(good(), some()...) {
		around, a := within(o)
		was := slices.Clone(around)
		one, two := Twin(a), Twin(a)
		spoil(one.At)
		if !equal(two, o) || !slices.Equal(around, was) {
			t.Fatalf("a twin of %v shares memory", brief(o))
		}
		spoil(around)
		if !equal(two, o) {
			t.Fatalf("a twin of %v changes with it", brief(o))
		}
	}
}

// P9.3: so are needs.
func TestNeedsAreNewMemory(t *testing.T) {
	for _, o := range good() {
		want, _ := needsInWords(o)
		around, a := within(o)
		was := slices.Clone(around)
		one, _ := Needs(a)
		two, _ := Needs(a)
		one = one[:cap(one)]
		for i := range one {
			one[i] = by(77, 7)
		}
		if !slices.Equal(two, want) || !slices.Equal(around, was) {
			t.Fatalf("the needs of %v share memory", brief(o))
		}
		spoil(around)
		if !slices.Equal(two, want) {
			t.Fatalf("the needs of %v change with it", brief(o))
		}
	}
}

// P1, P2: nothing is kept from call to call.
func TestKeepsNothing(t *testing.T) {
	asked := []api.Op{
		{Kind: api.OpInsert, Id: by(3, 0), At: of(run(1, 0, 3)), Point: 97}, {Kind: api.OpDelete, Id: by(9, 1), At: of(run(1, 0, 3))}, {Kind: api.OpMark, Id: by(1, 0), At: of(run(1, 0, 1))}, {Kind: api.OpJoin, Id: by(3, 1), At: of(run(1, 0, 3))}, {},
	}
	for _, o := range append(some(), good()...) {
		Check(o)
		Needs(o)
		Content(o)
		Twin(o)
		for _, two := range asked {
			Same(o, two)
			checks(t, two)
			needs(t, two)
			if !equal(Twin(two), two) || Content(two) != (two.Kind == 1 || two.Kind == 3) || !Same(two, two) || Same(o, two) != equal(o, two) {
				t.Fatalf("behind %v another answer of %v", brief(o), brief(two))
			}
		}
	}
}

// opFrom makes bytes an operation that may be, or nearly: the runs of its place, and which stamp about the last one it has.
func opFrom(kind uint8, b []byte, turn uint32, r uint8, point int) api.Op {
	var p []api.Run
	at := 0
	for ; len(b) >= 3; b = b[3:] {
		x := run(uint32(at+1+int(b[0]%4)), b[1]%8, 1+int(b[2]))
		switch {
		case b[1] > 250:
			x.R = b[1]
		case b[0] > 250:
			x.T = 1<<30 - uint32(b[2])
		case b[0] > 245:
			x.Many = int(b[2]) - 1
		}
		p = append(p, x)
		at = endOf(x)
	}
	return api.Op{Kind: kind, Id: by(uint32(at)+turn, r), At: p, Point: point}
}

// P1, P9.1 to P9.4: whatever operation.
func FuzzCheck(f *testing.F) {
	for _, kind := range kinds {
		f.Add(kind, []byte{0, 0, 2}, uint32(0), uint8(0), 97)
		f.Add(kind, []byte{0, 0, 2, 1, 3, 0}, uint32(1), uint8(3), 0)
		f.Add(kind, []byte{}, uint32(1), uint8(0), 0)
		f.Add(kind, []byte{255, 0, 0}, uint32(0), uint8(0), 0xd800)
		f.Add(kind, []byte{0, 0, 2}, uint32(math.MaxUint32), uint8(8), -1)
		f.Add(kind, make([]byte, 192), uint32(1), uint8(7), 0)
	}
	f.Fuzz(func(t *testing.T, kind uint8, b []byte, turn uint32, r uint8, point int) {
		o := opFrom(kind, b, turn, r, point)
		around, a := within(o)
		was := slices.Clone(around)
		checks(t, a)
		needs(t, a)
		if l, e := Needs(a); e == api.OK && len(l) > 0 {
			standsOn(t, a, l, len(l)-1)
		}
		two := Twin(a)
		if !slices.Equal(around, was) || !equal(two, o) || !Same(a, two) || Content(a) != (kind == 1 || kind == 3) {
			t.Fatalf("%v is turned, or its twin %v is", brief(o), brief(two))
		}
	})
}

// P9.1, P9.3: whatever two operations.
func FuzzSame(f *testing.F) {
	f.Add(uint8(1), []byte{0, 0, 2}, uint32(0), 97, uint8(1), []byte{0, 0, 2}, uint32(0), 97)
	f.Add(uint8(1), []byte{0, 0, 2}, uint32(0), 97, uint8(2), []byte{0, 0, 2}, uint32(0), 0)
	f.Add(uint8(3), []byte{0, 0, 2}, uint32(1), 0, uint8(3), []byte{0, 0, 2, 1, 1, 0}, uint32(1), 0)
	f.Fuzz(func(t *testing.T, kind uint8, b []byte, turn uint32, point int, kind2 uint8, b2 []byte, turn2 uint32, point2 int) {
		l := []api.Op{opFrom(kind, b, turn, 1, point), opFrom(kind2, b2, turn2, 1, point2), opFrom(kind, b, turn, 1, point2), opFrom(kind, b2, turn, 1, point)}
		for _, x := range l {
			turned(t, x)
			for _, y := range l {
				if want := equal(x, y); Same(x, y) != want || Same(Twin(x), y) != want {
					t.Fatalf("Same of %v, %v: %t", brief(x), brief(y), !want)
				}
			}
		}
	})
}

// P9.1, P9.2: the chapter's own examples.
func TestExamples(t *testing.T) {
	p := of(run(1, 0, 3))
	for _, c := range []struct {
		o     api.Op
		want  api.Errno
		needs []api.Id
	}{
		{api.Op{Kind: api.OpInsert, Id: by(3, 0), At: p, Point: 97}, api.OK, []api.Id{by(1, 0), by(2, 0)}},
		{api.Op{Kind: api.OpDelete, Id: by(9, 1), At: p}, api.OK, []api.Id{by(1, 0), by(2, 0), by(3, 0)}},
		{api.Op{Kind: api.OpMark, Id: by(1, 0), At: of(run(1, 0, 1))}, api.OK, nil},
		{api.Op{Kind: api.OpInsert, Id: by(3, 0), At: of(run(1, 0, 2)), Point: 97}, api.ErrBad, nil},
		{api.Op{Kind: api.OpDelete, Id: by(3, 1), At: p}, api.ErrBad, nil},
		{api.Op{Kind: api.OpMark, Id: by(3, 0), At: p, Point: 1}, api.ErrBad, nil},
		{api.Op{Kind: api.OpInsert, Id: by(3, 0), At: p, Point: 0xd800}, api.ErrBad, nil},
		{api.Op{Kind: 5, Id: by(3, 0), At: p, Point: 97}, api.ErrBad, nil},
		{api.Op{Kind: 5, Id: by(4, 0), At: p}, api.ErrBad, nil},
	} {
		l, e := Needs(c.o)
		if Check(c.o) != c.want || e != c.want || !slices.Equal(l, c.needs) {
			t.Errorf("%v: %d, %v, %d; want %d, %v", c.o, Check(c.o), l, e, c.want, c.needs)
		}
	}
}
