package code

import (
	"bytes"
	"encoding/binary"
	"math"
	"slices"
	"testing"

	"octavo/api"
	"octavo/op"
)

// run is so many stamps by r from t on.
func run(t uint32, r uint8, many int) api.Run {
	return api.Run{T: t, R: r, Many: many}
}

// of is a place of some runs.
func of(l ...api.Run) []api.Run {
	return l
}

// by is a stamp.
func by(t uint32, r uint8) api.Id {
	return api.Id{T: t, R: r}
}

// alone is so many runs of one stamp, by two replicas in turn.
func alone(many int) []api.Run {
	var p []api.Run
	for i := range many {
		p = append(p, run(uint32(i+1), uint8(i%2), 1))
	}
	return p
}

// endOf is the last stamp of a place that has one.
func endOf(p []api.Run) api.Id {
	r := p[len(p)-1]
	return by(r.T+uint32(r.Many)-1, r.R)
}

func insert(p []api.Run, point int) api.Op {
	return api.Op{Kind: 1, Id: endOf(p), At: p, Point: point}
}

func mark(p []api.Run) api.Op {
	return api.Op{Kind: 2, Id: endOf(p), At: p}
}

func without(t uint32, r uint8, p []api.Run) api.Op {
	return api.Op{Kind: 3, Id: by(t, r), At: p}
}

func joined(t uint32, r uint8, p []api.Run) api.Op {
	return api.Op{Kind: 4, Id: by(t, r), At: p}
}

// bytesOf is the bytes of numbers, by the library.
func bytesOf(l ...int) []byte {
	var b []byte
	for _, n := range l {
		b = binary.AppendUvarint(b, uint64(n))
	}
	return b
}

// numbersOf is an operation's numbers, by the chapter's words.
func numbersOf(o api.Op) []int {
	l := []int{int(o.Kind), len(o.At)}
	for i, r := range o.At {
		ahead := uint32(0)
		if i > 0 {
			ahead = endOf(o.At[:i]).T
		}
		l = append(l, int(r.T)-int(ahead), int(r.R), r.Many)
	}
	switch o.Kind {
	case 1:
		l = append(l, o.Point)
	case 3, 4:
		l = append(l, int(o.Id.T)-int(endOf(o.At).T), int(o.Id.R))
	}
	return l
}

// putInWords is what Put has to answer.
func putInWords(o api.Op) ([]byte, api.Errno) {
	if e := op.Check(o); e != api.OK {
		return nil, e
	}
	return bytesOf(numbersOf(o)...), api.OK
}

// allInWords is what All has to answer.
func allInWords(l []api.Op) ([]byte, api.Errno) {
	if len(l) > 1024 {
		return nil, api.ErrMany
	}
	b := bytesOf(len(l))
	for _, o := range l {
		more, e := putInWords(o)
		if e != api.OK {
			return nil, e
		}
		b = append(b, more...)
	}
	return b, api.OK
}

// guess is the one operation whose bytes these may begin with, if some do: what is too great for its field is cut off, and more bytes than need be are read too.
func guess(b []byte) api.Op {
	next := func() int {
		n, size := binary.Uvarint(b)
		b = b[max(size, 0):]
		return int(n)
	}
	o := api.Op{Kind: uint8(next())}
	for many := next(); len(o.At) < many && len(o.At) < 65; {
		ahead := uint32(0)
		if len(o.At) > 0 {
			ahead = endOf(o.At).T
		}
		o.At = append(o.At, run(ahead+uint32(next()), uint8(next()), next()))
	}
	if len(o.At) == 0 {
		return o
	}
	o.Id = endOf(o.At)
	switch o.Kind {
	case 1:
		o.Point = next()
	case 3, 4:
		o.Id = by(o.Id.T+uint32(next()), uint8(next()))
	}
	return o
}

// getInWords is what Get has to answer.
func getInWords(b []byte) (api.Op, int, api.Errno) {
	o := guess(b)
	if want, e := putInWords(o); e == api.OK && bytes.HasPrefix(b, want) {
		return o, len(want), api.OK
	}
	return api.Op{}, 0, api.ErrBad
}

// readInWords is what Read has to answer.
func readInWords(b []byte) ([]api.Op, int, api.Errno) {
	many, size := binary.Uvarint(b)
	if size <= 0 || many > 1024 || !bytes.HasPrefix(b, bytesOf(int(many))) {
		return nil, 0, api.ErrBad
	}
	var l []api.Op
	for range many {
		o, more, e := getInWords(b[size:])
		if e != api.OK {
			return nil, 0, e
		}
		l = append(l, o)
		size += more
	}
	return l, size, api.OK
}

// brief is an operation that is short enough to be told.
func brief(o api.Op) api.Op {
	o.At = o.At[:min(len(o.At), 5)]
	return o
}

// few is as much of bytes as is short enough to be told.
func few(b []byte) []byte {
	return b[:min(len(b), 30)]
}

// sameList is whether two lists have the same operations.
func sameList(a, b []api.Op) bool {
	return slices.EqualFunc(a, b, op.Same)
}

func puts(t *testing.T, o api.Op) {
	t.Helper()
	want, refusal := putInWords(o)
	if b, e := Put(o); e != refusal || !bytes.Equal(b, want) {
		t.Fatalf("Put of %v with %d runs: %d bytes, %v, %d; want %d, %v, %d", brief(o), len(o.At), len(b), few(b), e, len(want), few(want), refusal)
	}
}

func gets(t *testing.T, b []byte) {
	t.Helper()
	want, many, refusal := getInWords(b)
	if o, size, e := Get(b); e != refusal || size != many || !op.Same(o, want) {
		t.Fatalf("Get of %d bytes, %v: %v with %d runs, %d, %d; want %v with %d, %d, %d", len(b), few(b), brief(o), len(o.At), size, e, brief(want), len(want.At), many, refusal)
	}
}

func alls(t *testing.T, l []api.Op) {
	t.Helper()
	want, refusal := allInWords(l)
	if b, e := All(l); e != refusal || !bytes.Equal(b, want) {
		t.Fatalf("All of %d operations: %d bytes, %v, %d; want %d, %v, %d", len(l), len(b), few(b), e, len(want), few(want), refusal)
	}
}

func reads(t *testing.T, b []byte) {
	t.Helper()
	want, many, refusal := readInWords(b)
	if l, size, e := Read(b); e != refusal || size != many || !sameList(l, want) {
		t.Fatalf("Read of %d bytes, %v: %d operations, %d, %d; want %d, %d, %d", len(b), few(b), len(l), size, e, len(want), many, refusal)
	}
}

// refused asks whether bytes are no operation's, and no list of one.
func refused(t *testing.T, what string, b []byte) {
	t.Helper()
	if o, size, e := Get(b); e != api.ErrBad || size != 0 || !op.Same(o, api.Op{}) {
		t.Errorf("Get of %s, %v: %v, %d, %d; want ErrBad", what, few(b), brief(o), size, e)
	}
	if l, size, e := Read(append([]byte{1}, b...)); e != api.ErrBad || size != 0 || len(l) != 0 {
		t.Errorf("Read of %s, %v: %d operations, %d, %d; want ErrBad", what, few(b), len(l), size, e)
	}
}

// goodPlaces is places of the edges, all of which may be.
func goodPlaces() [][]api.Run {
	return [][]api.Run{
		of(run(1, 0, 1)), of(run(1, 7, 1)), of(run(2, 0, 1)), of(run(1, 0, 3)), of(run(127, 3, 1)), of(run(128, 3, 4)), of(run(300, 1, 127)), of(run(16383, 1, 128)), of(run(16384, 1, 300)), of(run(1<<21, 1, 1)), of(run(1<<28, 1, 1)),
		of(run(1, 0, 4095)), of(run(1, 0, 4096)), of(run(9, 7, 4096)), of(run(1<<30-1, 3, 1)), of(run(1<<30, 3, 1)), of(run(1<<30, 7, 1)), of(run(1<<30-1, 0, 2)), of(run(1<<30-4096, 2, 4096)), of(run(1<<30-4095, 2, 4096)),
		of(run(1, 0, 3), run(5, 2, 1)), of(run(2, 1, 2), run(7, 0, 1)), of(run(1, 0, 2), run(3, 1, 1)), of(run(1, 0, 2), run(4, 0, 1)), of(run(1, 0, 1), run(2, 7, 1), run(3, 0, 5)), of(run(1, 5, 1), run(1<<30, 5, 1)), of(run(1, 5, 2), run(130, 5, 1), run(500, 0, 2)), of(run(1, 7, 1), run(300, 0, 1)),
		of(run(1, 0, 2048), run(2049, 1, 2048)), of(run(1, 0, 4095), run(4096, 3, 1)), of(run(1, 3, 1), run(2, 0, 4095)),
		alone(2), alone(63), alone(64), append(alone(63), run(64, 1, 4033)), append(alone(63), run(1<<30, 7, 1)),
	}
}

// goodPoints is code points of the edges.
func goodPoints() []int {
	return []int{0, 1, 97, 127, 128, 0x20ac, 16383, 16384, 0xd7ff, 0xe000, 0x1f600, 0x10ffff}
}

// good is operations of all kinds, all of which may be.
func good() []api.Op {
	var l []api.Op
	for _, point := range goodPoints() {
		l = append(l, insert(of(run(1, 0, 3)), point), insert(of(run(1, 0, 3), run(5, 2, 1)), point))
	}
	for i, p := range goodPlaces() {
		l = append(l, insert(p, 0), insert(p, goodPoints()[i%len(goodPoints())]), mark(p))
		last := endOf(p)
		for j, later := range []uint32{1, 2, 127, 128, 300, 1<<30 - last.T} {
			if later == 0 || later > 1<<30-last.T {
				continue
			}
			r := []uint8{0, last.R, 7}[(i+j)%3]
			l = append(l, without(last.T+later, r, p), joined(last.T+later, 7-r, p))
		}
	}
	return l
}

// badPlaces is the beginning, and lists that may not be.
func badPlaces() [][]api.Run {
	return [][]api.Run{
		nil, {}, of(api.Run{}), of(run(0, 0, 1)), of(run(3, 0, 0)), of(run(3, 0, -1)), of(run(3, 0, math.MinInt)), of(run(1, 0, 4097)), of(run(3, 0, 1<<32+1)), of(run(3, 0, math.MaxInt)),
		of(run(3, 8, 1)), of(run(3, 255, 1)), of(run(1<<30+1, 0, 1)), of(run(1<<30, 0, 2)), of(run(math.MaxUint32, 0, 4)),
		of(run(1, 0, 2), run(3, 0, 1)), of(run(1, 0, 2), run(2, 1, 1)), of(run(1, 0, 2), run(2, 0, 1)), of(run(4, 0, 1), run(3, 1, 1)), of(run(1, 0, 2), api.Run{}), of(api.Run{}, run(3, 0, 1)),
		of(run(1, 0, 2048), run(2049, 1, 2049)), of(run(1, 0, 4096), run(4097, 1, 1)), alone(65), append(alone(63), run(64, 1, 4034)), slices.Repeat(of(run(3, 0, 1)), 1<<12), make([]api.Run, 64),
	}
}

// bad is operations that may not be: those that may be with one part turned, and those at no places.
func bad() []api.Op {
	l := []api.Op{{}, {Kind: 1}, {Kind: 2}, {Kind: 3, Id: by(3, 0)}, {Kind: 255, Id: by(math.MaxUint32, 255), Point: math.MinInt}}
	turned := func(o api.Op, turn func(o *api.Op)) {
		turn(&o)
		l = append(l, o)
	}
	for _, p := range goodPlaces() {
		younger := endOf(p)
		younger.T++
		for _, o := range []api.Op{insert(p, 97), mark(p), without(younger.T, younger.R, p), joined(younger.T, younger.R, p)} {
			for _, kind := range []uint8{0, 5, o.Kind + 128, o.Kind + 8, 255} {
				turned(o, func(o *api.Op) { o.Kind = kind })
			}
			for _, r := range []uint8{8, 9, 128, 255} {
				turned(o, func(o *api.Op) { o.Id.R = r })
			}
			for _, at := range []uint32{0, 1<<30 + 1, 1 << 31, math.MaxUint32} {
				turned(o, func(o *api.Op) { o.Id.T = at })
			}
			for _, point := range []int{-1, 0x110000, 0xd800, 0xdfff, 1 << 32, 1 << 40, 1<<40 + 1, math.MinInt, math.MaxInt} {
				turned(o, func(o *api.Op) { o.Point = point })
			}
			turned(o, func(o *api.Op) { o.At = nil })
			turned(o, func(o *api.Op) { o.At = append(slices.Clip(o.At), o.At[len(o.At)-1]) })
		}
	}
	for _, p := range badPlaces() {
		for kind := range uint8(6) {
			l = append(l, api.Op{Kind: kind, Id: by(3, 0), At: p}, api.Op{Kind: kind, Id: by(9, 1), At: p})
		}
	}
	return l
}

// short is those of some operations whose places have few runs.
func short(l []api.Op) []api.Op {
	return slices.DeleteFunc(slices.Clone(l), func(o api.Op) bool { return len(o.At) > 5 })
}

// many is so many operations, all of which may be.
func many(n int) []api.Op {
	l := short(good())
	return slices.Repeat(l, 1+n/len(l))[:n]
}

// P10.1: bytes that are known, one by one, of each kind.
func TestPutAndGetTellKnown(t *testing.T) {
	three, two := of(run(1, 0, 3)), of(run(1, 0, 3), run(5, 2, 1))
	for _, c := range []struct {
		o    api.Op
		want []byte
	}{
		{insert(of(run(1, 0, 1)), 0), []byte{1, 1, 1, 0, 1, 0}},
		{insert(three, 97), []byte{1, 1, 1, 0, 3, 97}},
		{insert(three, 0x10ffff), []byte{1, 1, 1, 0, 3, 255, 255, 67}},
		{insert(three, 0x20ac), []byte{1, 1, 1, 0, 3, 172, 65}},
		{insert(two, 97), []byte{1, 2, 1, 0, 3, 2, 2, 1, 97}},
		{mark(three), []byte{2, 1, 1, 0, 3}},
		{mark(two), []byte{2, 2, 1, 0, 3, 2, 2, 1}},
		{mark(of(run(1<<30, 7, 1))), []byte{2, 1, 128, 128, 128, 128, 4, 7, 1}},
		{mark(of(run(1, 7, 4096))), []byte{2, 1, 1, 7, 128, 32}},
		{mark(of(run(1, 0, 1), run(3, 0, 1), run(4, 1, 300), run(1<<30, 0, 1))), []byte{2, 4, 1, 0, 1, 2, 0, 1, 1, 1, 172, 2, 209, 253, 255, 255, 3, 0, 1}},
		{without(4, 0, three), []byte{3, 1, 1, 0, 3, 1, 0}},
		{without(9, 1, two), []byte{3, 2, 1, 0, 3, 2, 2, 1, 4, 1}},
		{without(303, 7, three), []byte{3, 1, 1, 0, 3, 172, 2, 7}},
		{without(1<<30, 7, of(run(1, 0, 1))), []byte{3, 1, 1, 0, 1, 255, 255, 255, 255, 3, 7}},
		{joined(4, 0, three), []byte{4, 1, 1, 0, 3, 1, 0}},
		{joined(9, 1, two), []byte{4, 2, 1, 0, 3, 2, 2, 1, 4, 1}},
		{joined(1<<30, 7, of(run(1<<30-1, 3, 1))), []byte{4, 1, 255, 255, 255, 255, 3, 3, 1, 1, 7}},
	} {
		if b, e := Put(c.o); e != api.OK || !bytes.Equal(b, c.want) {
			t.Errorf("Put of %v: %v, %d; want %v", c.o, b, e, c.want)
		}
		for _, behind := range [][]byte{nil, {0}, {1}, {128}, {255, 255}, c.want} {
			if o, size, e := Get(slices.Concat(c.want, behind)); e != api.OK || size != len(c.want) || !op.Same(o, c.o) {
				t.Errorf("Get of %v, %v: %v, %d, %d; want %v", c.want, behind, o, size, e, c.o)
			}
		}
	}
}

// P10.1, Put: operations of all kinds at places of the edges; ErrBad, and nothing beside it, of those that may not be, by each of their parts.
func TestPutTellsAll(t *testing.T) {
	for _, o := range good() {
		if e := op.Check(o); e != api.OK {
			t.Fatalf("%v may not be: %d", brief(o), e)
		}
		puts(t, o)
	}
	for _, o := range bad() {
		if b, e := Put(o); op.Check(o) != api.OK && (e != api.ErrBad || len(b) != 0) {
			t.Errorf("Put of %v: %d bytes, %d; want ErrBad", brief(o), len(b), e)
		}
		puts(t, o)
	}
}

// P10.1, Put: of each number a kind may be, of what may be an insert, a mark or a delete.
func TestPutTellsKinds(t *testing.T) {
	for kind := range 256 {
		for _, id := range []api.Id{by(3, 0), by(4, 0), by(4, 7)} {
			for _, point := range []int{0, 1, 97} {
				puts(t, api.Op{Kind: uint8(kind), Id: id, At: of(run(1, 0, 3)), Point: point})
			}
		}
	}
}

// P10.1: how many bytes the longest operations have.
func TestPutTellsLongest(t *testing.T) {
	for _, c := range []struct {
		what string
		o    api.Op
		want int
	}{
		{"64 runs of one stamp", mark(alone(64)), 2 + 64*3},
		{"an insert of 64 runs", insert(alone(64), 0x10ffff), 2 + 64*3 + 3},
		{"a delete of 64 runs", without(1<<30, 7, alone(64)), 2 + 64*3 + 6},
		{"4096 stamps in one run", mark(of(run(1, 0, 4096))), 2 + 4},
		{"4096 stamps in 64 runs", mark(append(alone(63), run(64, 1, 4033))), 2 + 64*3 + 1},
	} {
		b, e := Put(c.o)
		if e != api.OK || len(b) != c.want {
			t.Errorf("Put of %s: %d bytes, %d; want %d", c.what, len(b), e, c.want)
		}
		if o, size, e := Get(b); e != api.OK || size != c.want || !op.Same(o, c.o) {
			t.Errorf("Get of %s: %d runs, %d, %d", c.what, len(o.At), size, e)
		}
	}
}

// P10.1, Get: what is no operation's bytes, one by one.
func TestGetRefusesKnown(t *testing.T) {
	for _, c := range []struct {
		what string
		b    []byte
	}{
		{"no bytes", nil},
		{"a kind alone", []byte{1}},
		{"kind 0", []byte{0, 1, 1, 0, 3, 97}},
		{"kind 5", []byte{5, 1, 1, 0, 3, 97}},
		{"kind 0, ending as a mark", []byte{0, 1, 1, 0, 3}},
		{"kind 5, ending as a delete", []byte{5, 1, 1, 0, 3, 1, 0}},
		{"kind 255", bytesOf(255, 1, 1, 0, 3, 97)},
		{"kind 257, which a byte has as 1", bytesOf(257, 1, 1, 0, 3, 97)},
		{"kind 2^32 and 2", bytesOf(1<<32+2, 1, 1, 0, 3)},
		{"a mark at the beginning", []byte{2, 0}},
		{"an insert at the beginning", []byte{1, 0, 97}},
		{"a delete of the beginning", []byte{3, 0, 1, 0}},
		{"a join of the beginning", []byte{4, 0, 9, 1}},
		{"65 runs", bytesOf(numbersOf(mark(alone(65)))...)},
		{"2^40 runs", bytesOf(2, 1<<40, 1, 0, 3)},
		{"a first time 0", []byte{2, 1, 0, 0, 1}},
		{"a first time 0 of three", []byte{2, 1, 0, 0, 3}},
		{"a first time behind the last one", bytesOf(2, 1, 1<<30+1, 0, 1)},
		{"a first time 2^32 and 1", bytesOf(2, 1, 1<<32+1, 0, 1)},
		{"a run that goes on behind the last time", bytesOf(2, 1, 1<<30, 0, 2)},
		{"replica 8", []byte{2, 1, 1, 8, 1}},
		{"replica 255", bytesOf(2, 1, 1, 255, 1)},
		{"replica 256, which a byte has as 0", bytesOf(2, 1, 1, 256, 1)},
		{"replica 263, which a byte has as 7", bytesOf(2, 1, 1, 263, 1)},
		{"a run of none", []byte{2, 1, 1, 0, 0}},
		{"a run of 4097", bytesOf(2, 1, 1, 0, 4097)},
		{"a run of 2^32 and 1", bytesOf(2, 1, 1, 0, 1<<32+1)},
		{"a run of 2^40", bytesOf(2, 1, 1, 0, 1<<40)},
		{"runs of 4097", bytesOf(2, 2, 1, 0, 4096, 1, 1, 1)},
		{"runs of one time", []byte{2, 2, 1, 0, 3, 0, 1, 1}},
		{"runs that one run would say", []byte{2, 2, 1, 0, 3, 1, 0, 1}},
		{"runs that go back, round a number of 32 bits", bytesOf(2, 2, 5, 0, 1, 1<<32-1, 1, 1)},
		{"a second time behind the last one", bytesOf(2, 2, 1, 0, 1, 1<<30, 1, 1)},
		{"a run behind one of none at no time", bytesOf(2, 2, 0, 0, 0, 1, 1, 1)},
		{"a run behind one that ends behind the last time", bytesOf(2, 2, 1<<30, 0, 4096, 1, 1, 1)},
		{"a point that is a surrogate", bytesOf(1, 1, 1, 0, 1, 0xd800)},
		{"a point that is the last surrogate", bytesOf(1, 1, 1, 0, 1, 0xdfff)},
		{"a point behind the last one", bytesOf(1, 1, 1, 0, 1, 0x110000)},
		{"a point 2^32 and 97", bytesOf(1, 1, 1, 0, 1, 1<<32+97)},
		{"a point 2^40", bytesOf(1, 1, 1, 0, 1, 1<<40)},
		{"a delete as old as what it takes away", []byte{3, 1, 1, 0, 1, 0, 0}},
		{"a join as old as what it takes away", []byte{4, 1, 1, 0, 1, 0, 7}},
		{"a delete by replica 8", []byte{3, 1, 1, 0, 1, 1, 8}},
		{"a delete by replica 256", bytesOf(3, 1, 1, 0, 1, 1, 256)},
		{"a delete behind the last time", bytesOf(3, 1, 1, 0, 1, 1<<30, 0)},
		{"a join behind the last time", bytesOf(4, 1, 2, 0, 1, 1<<30-1, 0)},
		{"a delete that goes round a number of 32 bits", bytesOf(3, 1, 1, 0, 1, 1<<32+1, 0)},
		{"a delete of the last time", bytesOf(3, 1, 1<<30, 0, 1, 1, 0)},
		{"a number above 2^40", []byte{2, 1, 129, 128, 128, 128, 128, 32, 0, 1}},
		{"a number of nine bytes", []byte{2, 1, 129, 128, 128, 128, 128, 128, 128, 128, 1, 0, 1}},
		{"1 in two bytes", []byte{2, 1, 129, 0, 0, 1}},
		{"bytes that all go on", bytes.Repeat([]byte{255}, 1000)},
		{"bytes of 0", make([]byte, 1000)},
	} {
		refused(t, c.what, c.b)
	}
}

// P10.1, Get: an operation that ends too early, wherever; and whatever stands behind one is not read.
func TestGetEndsWhereItEnds(t *testing.T) {
	for _, o := range good() {
		b := bytesOf(numbersOf(o)...)
		for n := range b {
			if len(b) > 50 && n%17 > 2 && n < len(b)-9 {
				continue
			}
			refused(t, "bytes that end too early", b[:n])
		}
		for x := range 256 {
			gets(t, append(slices.Clip(b), byte(x)))
		}
		gets(t, slices.Concat(b, b))
		gets(t, append(slices.Clip(b), bytes.Repeat([]byte{255}, 99)...))
	}
}

// P10.1, Get: each of an operation's numbers in more bytes than it needs is refused.
func TestGetRefusesMoreBytes(t *testing.T) {
	for _, o := range good() {
		l := numbersOf(o)
		for i, n := range l {
			b := bytesOf(n)
			b[len(b)-1] += 128
			for _, more := range [][]byte{{0}, {128, 0}, {128, 128, 0}} {
				refused(t, "a number in more bytes", slices.Concat(bytesOf(l[:i]...), b, more, bytesOf(l[i+1:]...)))
			}
		}
	}
}

// P10.1, Get: each of an operation's numbers instead of which another one stands, most too great for what they tell.
func TestGetTellsOtherNumbers(t *testing.T) {
	others := []int{0, 1, 2, 3, 4, 5, 6, 7, 8, 63, 64, 65, 97, 127, 128, 255, 256, 257, 258, 259, 260, 263, 4095, 4096, 4097, 0xd800, 0xdfff, 0xe000, 1<<16 + 1, 0x10ffff, 0x110000, 1<<30 - 2, 1<<30 - 1, 1 << 30, 1<<30 + 1, 1 << 31, 1<<31 + 1, 1<<32 - 1, 1 << 32, 1<<32 + 1, 1<<32 + 3, 1<<32 + 97, 1<<40 - 1, 1 << 40, 1<<40 + 1, 1 << 42, 1<<56 + 1, math.MaxInt, -1}
	for _, o := range good() {
		l := numbersOf(o)
		for i := range l {
			if i > 20 && i < len(l)-4 {
				continue
			}
			for _, n := range others {
				other := slices.Clone(l)
				other[i] = n
				gets(t, bytesOf(other...))
			}
		}
	}
}

// P10.1, Get: each of an operation's bytes instead of which another one stands.
func TestGetTellsOtherBytes(t *testing.T) {
	for _, o := range short(good()) {
		b := bytesOf(numbersOf(o)...)
		for i := range b {
			for x := range 256 {
				other := append(slices.Clone(b), 1, 0, 1)
				other[i] = byte(x)
				gets(t, other)
			}
		}
	}
}

// P10.1, P10.2: all few bytes of those that tell most: there are operations of up to eight numbers among them, and lists.
func TestGetAndReadTellSmall(t *testing.T) {
	some := []byte{0, 1, 2, 3, 8, 129}
	var fill func(b []byte, at int)
	fill = func(b []byte, at int) {
		if at == len(b) {
			gets(t, b)
			reads(t, b)
			return
		}
		for _, x := range some {
			b[at] = x
			fill(b, at+1)
		}
	}
	for size := range 8 {
		fill(make([]byte, size), 0)
	}
	for _, head := range [][]byte{{2, 2, 1}, {1, 2, 1, 0}, {3, 2, 1, 7, 1}, {4, 1, 1, 0, 1}, {2, 2, 1, 1, 0, 1, 2}} {
		b := make([]byte, len(head)+6)
		copy(b, head)
		fill(b, len(head))
	}
}

// P10.2, All: lists that are known.
func TestAllTellsKnown(t *testing.T) {
	a, m, d := insert(of(run(1, 0, 3)), 97), mark(of(run(1, 0, 1))), without(9, 1, of(run(1, 0, 3), run(5, 2, 1)))
	for _, c := range []struct {
		l    []api.Op
		want []byte
	}{
		{nil, []byte{0}},
		{[]api.Op{}, []byte{0}},
		{[]api.Op{a}, []byte{1, 1, 1, 1, 0, 3, 97}},
		{[]api.Op{m, a}, []byte{2, 2, 1, 1, 0, 1, 1, 1, 1, 0, 3, 97}},
		{[]api.Op{a, m}, []byte{2, 1, 1, 1, 0, 3, 97, 2, 1, 1, 0, 1}},
		{[]api.Op{d, d, m}, []byte{3, 3, 2, 1, 0, 3, 2, 2, 1, 4, 1, 3, 2, 1, 0, 3, 2, 2, 1, 4, 1, 2, 1, 1, 0, 1}},
		{slices.Repeat([]api.Op{m}, 300), append([]byte{172, 2}, bytes.Repeat([]byte{2, 1, 1, 0, 1}, 300)...)},
	} {
		if b, e := All(c.l); e != api.OK || !bytes.Equal(b, c.want) {
			t.Errorf("All of %d operations: %v, %d; want %v", len(c.l), few(b), e, few(c.want))
		}
		for _, behind := range [][]byte{nil, {0}, {1}, {128}, {255, 255}, c.want} {
			if l, size, e := Read(slices.Concat(c.want, behind)); e != api.OK || size != len(c.want) || !sameList(l, c.l) {
				t.Errorf("Read of %v, %v: %d operations, %d, %d; want %d", few(c.want), behind, len(l), size, e, len(c.l))
			}
		}
	}
}

// P10.2: lists of none up to more than may be: ErrMany, and nothing beside it, of more than 1024.
func TestAllTellsHowMany(t *testing.T) {
	for _, n := range []int{0, 1, 2, 126, 127, 128, 129, 1023, 1024} {
		l := many(n)
		alls(t, l)
		b, _ := allInWords(l)
		reads(t, b)
		reads(t, append(b, 2, 1, 1, 0, 1))
		if got, size, e := Read(b); e != api.OK || size != len(b) || !sameList(got, l) {
			t.Errorf("Read of a list of %d: %d, %d, %d", n, len(got), size, e)
		}
	}
	for _, n := range []int{1025, 1026, 2048, 1 << 16} {
		l := many(n)
		if b, e := All(l); e != api.ErrMany || len(b) != 0 {
			t.Errorf("All of %d operations: %d bytes, %d; want ErrMany", n, len(b), e)
		}
	}
	long := slices.Repeat([]api.Op{without(1<<30, 7, alone(64))}, 1024)
	alls(t, long)
	b, _ := allInWords(long)
	reads(t, b)
}

// P10.2, All: the first error: ErrMany ahead of what any one tells, and ErrBad wherever one that may not be stands.
func TestAllTellsFirstError(t *testing.T) {
	wrong := bad()
	wrong = slices.DeleteFunc(wrong, func(o api.Op) bool { return op.Check(o) == api.OK })
	three := many(3)
	for i, o := range wrong {
		l := slices.Clone(three)
		l[i%3] = o
		if b, e := All(l); e != api.ErrBad || len(b) != 0 {
			t.Errorf("All of three, one of them %v: %d bytes, %d; want ErrBad", brief(o), len(b), e)
		}
	}
	for _, n := range []int{1, 2, 9, 1024, 1025, 2000} {
		for _, at := range []int{0, n / 2, n - 1} {
			l := many(n)
			l[at] = api.Op{Kind: 5}
			want := api.ErrBad
			if n > 1024 {
				want = api.ErrMany
			}
			if b, e := All(l); e != want || len(b) != 0 {
				t.Errorf("All of %d operations, the one at %d bad: %d bytes, %d; want %d", n, at, len(b), e, want)
			}
		}
	}
}

// P10.2, Read: what is no list's bytes: too many, though all of them may be; fewer than are told; one that may not be, wherever.
func TestReadRefuses(t *testing.T) {
	refuse := func(what string, b []byte) {
		t.Helper()
		if l, size, e := Read(b); e != api.ErrBad || size != 0 || len(l) != 0 {
			t.Errorf("Read of %s, %v: %d operations, %d, %d; want ErrBad", what, few(b), len(l), size, e)
		}
	}
	m := []byte{2, 1, 1, 0, 1}
	refuse("no bytes", nil)
	refuse("empty bytes", []byte{})
	refuse("a number that ends too early", []byte{128})
	refuse("none in two bytes", []byte{128, 0})
	refuse("one in two bytes", append([]byte{129, 0}, m...))
	for _, n := range []int{1025, 1026, 1 << 16, 1 << 20, 1 << 40, 1<<40 + 1, 1 << 62} {
		refuse("too many", append(bytesOf(n), bytes.Repeat(m, 2000)...))
		refuse("too many, and none there", bytesOf(n))
	}
	for _, n := range []int{1, 2, 3, 1023, 1024} {
		refuse("one less than is told", append(bytesOf(n), bytes.Repeat(m, n-1)...))
		refuse("the last one ends too early", append(bytesOf(n), bytes.Repeat(m, n)[:n*5-1]...))
		for _, at := range []int{0, n / 2, n - 1} {
			for i, x := range []byte{9, 9, 0, 9, 0} {
				b := append(bytesOf(n), bytes.Repeat(m, n)...)
				b[len(b)-5*(n-at)+i] = x
				refuse("one that may not be", b)
			}
		}
	}
}

// P10.2, Read: a list whose bytes end too early, wherever, or of whose numbers one has more bytes.
func TestReadEndsWhereItEnds(t *testing.T) {
	all := many(300)
	for i := range 30 {
		b, _ := allInWords(all[i*9 : i*9+4])
		for n := range b {
			if got, size, e := Read(b[:n]); e != api.ErrBad || size != 0 || len(got) != 0 {
				t.Fatalf("Read of %d bytes of %v: %d, %d, %d; want ErrBad", n, b, len(got), size, e)
			}
			for x := range 256 {
				other := slices.Clone(b)
				other[n] = byte(x)
				reads(t, other)
			}
		}
		reads(t, append(b, b...))
	}
}

// P10.4: what is written is read back, whatever stands behind; of no two operations the bytes of one begin with the other's.
func TestReadsBackWhatIsWritten(t *testing.T) {
	l := good()
	var written [][]byte
	for _, o := range l {
		b, e := Put(o)
		if e != api.OK {
			t.Fatalf("Put of %v: %d", brief(o), e)
		}
		written = append(written, b)
	}
	for i, o := range l {
		behind := written[(i*7+3)%len(l)]
		if got, size, e := Get(slices.Concat(written[i], behind)); e != api.OK || size != len(written[i]) || !op.Same(got, o) {
			t.Fatalf("%v is read as %v, %d, %d", brief(o), brief(got), size, e)
		}
		for j := range l {
			if bytes.HasPrefix(written[j], written[i]) && !op.Same(l[j], o) {
				t.Fatalf("the bytes of %v begin with those of %v", brief(l[j]), brief(o))
			}
		}
	}
	for n := 0; n < 1024; n += 1 + n/3 {
		some := many(n)
		b, e := All(some)
		if got, size, f := Read(append(slices.Clip(b), 1, 2, 3)); e != api.OK || f != api.OK || size != len(b) || !sameList(got, some) {
			t.Fatalf("a list of %d is written, %d, and read as %d, %d, %d", n, e, len(got), size, f)
		}
	}
}

// same asks whether what is read of bytes, an operation or a list, is written as just these.
func same(t *testing.T, b []byte) {
	t.Helper()
	if o, size, e := Get(b); e == api.OK {
		if again, e := Put(o); e != api.OK || !bytes.Equal(again, b[:size]) {
			t.Fatalf("%v is read, and written as %v, %d", few(b[:size]), few(again), e)
		}
	}
	if l, size, e := Read(b); e == api.OK {
		if again, e := All(l); e != api.OK || !bytes.Equal(again, b[:size]) {
			t.Fatalf("a list of %v is read, and written as %v, %d", few(b[:size]), few(again), e)
		}
	}
}

// P10.4: what is read is written as just these bytes, of made-up ones too.
func TestWritesWhatIsRead(t *testing.T) {
	seed := uint32(1)
	made := func(below int) int {
		seed = seed*1664525 + 1013904223
		return int(seed>>8) % below
	}
	read := 0
	for range 200000 {
		b := bytesOf(1+made(4), 1+made(2), made(3), made(9), made(4))
		for range made(8) {
			b = append(b, bytesOf(made(200))...)
		}
		if made(9) == 0 {
			b[made(len(b))] = byte(made(256))
		}
		same(t, b)
		same(t, append([]byte{byte(made(3))}, b...))
		gets(t, b)
		if _, _, e := Get(b); e == api.OK {
			read++
		}
	}
	if read < 1000 {
		t.Errorf("of all made-up bytes only %d were an operation's", read)
	}
}

// within is an operation whose place has others around it in its memory.
func within(o api.Op) (around []api.Run, in api.Op) {
	around = slices.Concat(of(run(3, 0, 1)), o.At, of(run(9, 9, 9), run(8, 8, 8)))
	in = o
	in.At = around[1 : 1+len(o.At)]
	return around, in
}

// spoil writes over all that a place has room for.
func spoil(p []api.Run) {
	p = p[:cap(p)]
	for i := range p {
		p[i] = run(77, 7, 77)
	}
}

// spoilBytes writes over all that bytes have room for.
func spoilBytes(b []byte) {
	b = b[:cap(b)]
	for i := range b {
		b[i] = 77
	}
}

// P10.3, Put: what is handed in is only read, what lies around it in memory too; what is answered is new memory, which neither the one who handed in nor the caller's changes reach.
func TestPutOnlyReads(t *testing.T) {
	for _, o := range append(good(), bad()...) {
		around, a := within(o)
		was := slices.Clone(around)
		puts(t, a)
		one, _ := Put(a)
		two, _ := Put(a)
		if !slices.Equal(around, was) || !op.Same(a, o) {
			t.Fatalf("%v is turned", brief(o))
		}
		want, _ := putInWords(o)
		spoilBytes(one)
		if !bytes.Equal(two, want) || !slices.Equal(around, was) {
			t.Fatalf("the bytes of %v share memory", brief(o))
		}
		spoil(around)
		if !bytes.Equal(two, want) {
			t.Fatalf("the bytes of %v change with it", brief(o))
		}
		puts(t, o)
	}
}

// P10.3, Get: so are bytes, and the operation's place.
func TestGetOnlyReads(t *testing.T) {
	for _, o := range good() {
		b := bytesOf(numbersOf(o)...)
		around := slices.Concat([]byte{1, 2}, b, []byte{128, 3})
		was := slices.Clone(around)
		in := around[2 : 2+len(b)]
		gets(t, in)
		gets(t, in[:len(b)-1])
		one, _, _ := Get(in)
		two, _, _ := Get(in)
		spoil(one.At)
		if !bytes.Equal(around, was) || !op.Same(two, o) {
			t.Fatalf("what is read of %v shares memory", few(b))
		}
		spoilBytes(around)
		if !op.Same(two, o) {
			t.Fatalf("what is read of %v changes with it", few(b))
		}
	}
}

// P10.3, All: so is a list, with what lies around it and around its places.
func TestAllOnlyReads(t *testing.T) {
	for _, n := range []int{0, 1, 2, 9, 300, 1024, 1025} {
		l := many(n)
		around := slices.Concat(many(1), l, many(2))
		var places [][]api.Run
		for i := range l {
			p, a := within(l[i])
			around[1+i] = a
			places = append(places, p)
		}
		in := around[1 : 1+n]
		was := slices.Clone(around)
		alls(t, in)
		one, _ := All(in)
		two, _ := All(in)
		want, _ := allInWords(l)
		spoilBytes(one)
		if !bytes.Equal(two, want) || !sameList(around, was) || !sameList(in, l) {
			t.Fatalf("the bytes of a list of %d share memory, or it is turned", n)
		}
		for _, p := range places {
			spoil(p)
		}
		clear(around)
		if !bytes.Equal(two, want) {
			t.Fatalf("the bytes of a list of %d change with it", n)
		}
	}
}

// P10.3, Read: so are a list's bytes; and no two places of what is read share memory.
func TestReadOnlyReads(t *testing.T) {
	for _, n := range []int{0, 1, 2, 9, 300, 1024} {
		l := many(n)
		b, _ := allInWords(l)
		around := slices.Concat([]byte{1, 2}, b, []byte{128, 3})
		was := slices.Clone(around)
		in := around[2 : 2+len(b)]
		reads(t, in)
		reads(t, in[:len(b)-1])
		one, _, _ := Read(in)
		two, _, _ := Read(in)
		for i := range one {
			spoil(one[i].At)
			if !sameList(one[i+1:], l[i+1:]) {
				t.Fatalf("two places of a list of %d share memory", n)
			}
		}
		clear(one[:cap(one)])
		if !bytes.Equal(around, was) || !sameList(two, l) {
			t.Fatalf("what is read of a list of %d shares memory", n)
		}
		spoilBytes(around)
		if !sameList(two, l) {
			t.Fatalf("what is read of a list of %d changes with its bytes", n)
		}
	}
}

// P1, P2, V7: nothing is kept from call to call, those with errors among them.
func TestKeepsNothing(t *testing.T) {
	list := many(3)
	b, _ := allInWords(list)
	for i, o := range append(bad(), good()...) {
		first, _ := Put(o)
		Get(first)
		Get(b[:i%len(b)])
		All([]api.Op{list[0], o, list[1]})
		Read(append([]byte{2}, first...))
		puts(t, list[i%3])
		gets(t, b[1:])
		alls(t, list)
		reads(t, b)
		alls(t, nil)
		reads(t, nil)
	}
}

// opFrom makes bytes an operation that may be, or nearly: the runs of its place, and which stamp about the last one it has.
func opFrom(kind uint8, b []byte, turn uint32, r uint8, point int) api.Op {
	var p []api.Run
	at := uint32(0)
	for ; len(b) >= 3; b = b[3:] {
		x := run(at+1+uint32(b[0]%4), b[1]%8, 1+int(b[2]))
		switch {
		case b[1] > 250:
			x.R = b[1]
		case b[0] > 250:
			x.T = 1<<30 - uint32(b[2])
		case b[0] > 245:
			x.Many = int(b[2]) - 1
		}
		p = append(p, x)
		at = endOf(p).T
	}
	return api.Op{Kind: kind, Id: by(at+turn, r), At: p, Point: point}
}

// P1, P10.1 to P10.4: whatever operation, and lists of it.
func FuzzPut(f *testing.F) {
	for _, kind := range []uint8{0, 1, 2, 3, 4, 5, 129} {
		f.Add(kind, []byte{0, 0, 2}, uint32(0), uint8(0), 97, uint16(3))
		f.Add(kind, []byte{0, 0, 2, 1, 3, 0}, uint32(1), uint8(3), 0, uint16(0))
		f.Add(kind, []byte{}, uint32(1), uint8(0), 0, uint16(1))
		f.Add(kind, []byte{255, 0, 0}, uint32(0), uint8(0), 0xd800, uint16(1025))
		f.Add(kind, make([]byte, 192), uint32(1), uint8(7), 0, uint16(9))
	}
	f.Fuzz(func(t *testing.T, kind uint8, b []byte, turn uint32, r uint8, point int, n uint16) {
		o := opFrom(kind, b, turn, r, point)
		around, a := within(o)
		was := slices.Clone(around)
		puts(t, a)
		l := append(slices.Repeat([]api.Op{a}, int(n%1100)), insert(of(run(1, 0, 3)), 97))
		alls(t, l)
		if !slices.Equal(around, was) || !op.Same(a, o) {
			t.Fatalf("%v is turned", brief(o))
		}
		if b, e := Put(a); e == api.OK {
			gets(t, b)
			same(t, append(b, 1, 2, 3))
			refused(t, "bytes that end too early", b[:len(b)-1])
		}
		if b, e := All(l); e == api.OK {
			reads(t, b)
			same(t, b)
		}
	})
}

// P1, P10.1, P10.2, P10.4: whatever bytes.
func FuzzGet(f *testing.F) {
	for i, o := range good() {
		if i%5 == 0 {
			f.Add(bytesOf(numbersOf(o)...))
		}
	}
	for _, n := range []int{0, 1, 2, 9, 128} {
		b, _ := allInWords(many(n))
		f.Add(b)
	}
	f.Add([]byte{1, 0})
	f.Add([]byte{2, 1, 129, 0, 0, 1})
	f.Add(bytesOf(257, 1, 1<<32+1, 256, 1<<40))
	f.Fuzz(func(t *testing.T, b []byte) {
		was := bytes.Clone(b)
		gets(t, b)
		reads(t, b)
		same(t, b)
		reads(t, append([]byte{2}, b...))
		same(t, append([]byte{1}, b...))
		if !bytes.Equal(b, was) {
			t.Fatalf("%v is turned", few(was))
		}
	})
}

// P10.1, P10.2: the chapter's own examples.
func TestExamples(t *testing.T) {
	if b, e := Put(api.Op{Kind: api.OpInsert, Id: by(3, 0), At: of(run(1, 0, 3)), Point: 97}); e != api.OK || !bytes.Equal(b, []byte{1, 1, 1, 0, 3, 97}) {
		t.Errorf("Put of an insert: %v, %d", b, e)
	}
	if b, e := Put(api.Op{Kind: api.OpDelete, Id: by(9, 1), At: of(run(1, 0, 3), run(5, 2, 1))}); e != api.OK || !bytes.Equal(b, []byte{3, 2, 1, 0, 3, 2, 2, 1, 4, 1}) {
		t.Errorf("Put of a delete: %v, %d", b, e)
	}
	if b, e := All(nil); e != api.OK || !bytes.Equal(b, []byte{0}) {
		t.Errorf("All of none: %v, %d", b, e)
	}
	if l, size, e := Read([]byte{0, 7}); e != api.OK || size != 1 || len(l) != 0 {
		t.Errorf("Read of 0 7: %v, %d, %d", l, size, e)
	}
	for _, b := range [][]byte{{1, 1, 1, 0, 3}, {9, 1, 1, 0, 3, 97}, nil} {
		if o, size, e := Get(b); e != api.ErrBad || size != 0 || !op.Same(o, api.Op{}) {
			t.Errorf("Get of %v: %v, %d, %d", b, o, size, e)
		}
	}
}
