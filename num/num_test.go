package num

import (
	"bytes"
	"math"
	"testing"

	"octavo/api"
)

// written is numbers and their bytes, by the chapter.
var written = []struct {
	n int
	b []byte
}{
	{0, []byte{0}},
	{1, []byte{1}},
	{2, []byte{2}},
	{9, []byte{9}},
	{127, []byte{127}},
	{128, []byte{128, 1}},
	{129, []byte{129, 1}},
	{255, []byte{255, 1}},
	{256, []byte{128, 2}},
	{300, []byte{172, 2}},
	{1<<14 - 1, []byte{255, 127}},
	{1 << 14, []byte{128, 128, 1}},
	{1<<21 - 1, []byte{255, 255, 127}},
	{1 << 21, []byte{128, 128, 128, 1}},
	{1<<28 - 1, []byte{255, 255, 255, 127}},
	{1 << 28, []byte{128, 128, 128, 128, 1}},
	{1<<35 - 1, []byte{255, 255, 255, 255, 127}},
	{1 << 35, []byte{128, 128, 128, 128, 128, 1}},
	{1<<40 - 1, []byte{255, 255, 255, 255, 255, 31}},
	{1 << 40, []byte{128, 128, 128, 128, 128, 32}},
}

// sample is numbers that may be written, rising: all small ones, those around each power of two, and some of every size between.
func sample() []int {
	var l []int
	for n := range 1<<15 - 1 {
		l = append(l, n)
	}
	for at := 15; at < 40; at++ {
		some := 0x5a5a5a5a5a % (1<<at - 3)
		l = append(l, 1<<at-1, 1<<at, 1<<at+1, 1<<at+2+some)
	}
	return append(l, 1<<40-1, 1<<40)
}

func refused(t *testing.T, b []byte) {
	t.Helper()
	if n, size, e := Get(b); n != 0 || size != 0 || e != api.ErrBad {
		t.Errorf("Get(%v): %d, %d, %d; want ErrBad", b, n, size, e)
	}
}

// P1.1, Put: a number's bytes.
func TestPutTellsBytes(t *testing.T) {
	for _, c := range written {
		if b, e := Put(c.n); e != api.OK || !bytes.Equal(b, c.b) {
			t.Errorf("Put(%d): %v, %d; want %v", c.n, b, e, c.b)
		}
	}
}

// P1.1, Put: ErrArg, and nothing beside it, for what may not be written.
func TestPutRefuses(t *testing.T) {
	for _, n := range []int{-1, -2, -127, -128, -129, -(1 << 40), math.MinInt, math.MinInt + 1, 1<<40 + 1, 1<<40 + 2, 1 << 41, 1 << 42, 1<<42 - 1, 1 << 53, math.MaxInt} {
		if b, e := Put(n); e != api.ErrArg || len(b) != 0 {
			t.Errorf("Put(%d): %v, %d; want ErrArg", n, b, e)
		}
	}
}

// P1.1: the bytes are as few as can be: the highest seven bits aren't zero.
func TestPutIsShort(t *testing.T) {
	for _, n := range sample() {
		b, e := Put(n)
		if e != api.OK || len(b) < 1 || len(b) > 6 {
			t.Fatalf("Put(%d): %v, %d", n, b, e)
		}
		sum := 0
		for i, x := range b {
			sum += int(x&127) << (7 * i)
			if (x >= 128) != (i < len(b)-1) {
				t.Errorf("Put(%d): %v: byte %d", n, b, i)
			}
		}
		if sum != n || len(b) > 1 && b[len(b)-1] == 0 {
			t.Errorf("Put(%d): %v tells %d", n, b, sum)
		}
	}
}

// P1.1, Get: the number, and how many bytes it has.
func TestGetTellsNumber(t *testing.T) {
	for _, c := range written {
		if n, size, e := Get(c.b); n != c.n || size != len(c.b) || e != api.OK {
			t.Errorf("Get(%v): %d, %d, %d; want %d", c.b, n, size, e, c.n)
		}
	}
	if n, size, e := Get([]byte{172, 2, 9}); n != 300 || size != 2 || e != api.OK {
		t.Errorf("Get(172 2 9): %d, %d, %d", n, size, e)
	}
}

// P1.1, Get: nothing, and bytes that break off.
func TestGetRefusesBroken(t *testing.T) {
	refused(t, nil)
	refused(t, []byte{})
	for _, c := range written {
		for k := range len(c.b) {
			refused(t, c.b[:k])
		}
	}
	refused(t, []byte{255})
	refused(t, []byte{255, 255, 255, 255, 255})
}

// P1.1, Get: bytes that are not as few as can be, with something behind them or not.
func TestGetRefusesLong(t *testing.T) {
	for _, b := range [][]byte{
		{128, 0}, {129, 0}, {255, 0}, {172, 130, 0}, {128, 128, 0}, {255, 255, 255, 0},
		{129, 128, 128, 128, 128, 0}, {255, 255, 255, 255, 255, 0}, {128, 128, 128, 128, 128, 160, 0},
	} {
		refused(t, b)
		refused(t, append(bytes.Clone(b), 1))
	}
}

// P1.1, Get: numbers that are too great to be written.
func TestGetRefusesGreat(t *testing.T) {
	for _, b := range [][]byte{
		{129, 128, 128, 128, 128, 32}, {128, 128, 128, 128, 128, 33}, {255, 255, 255, 255, 255, 32},
		{128, 128, 128, 128, 128, 64}, {255, 255, 255, 255, 255, 127}, {128, 128, 128, 128, 128, 128, 1},
		{255, 255, 255, 255, 255, 255, 255, 255, 255, 127},
		{128, 128, 128, 128, 128, 128, 128, 128, 128, 1}, // 2^63
		{128, 128, 128, 128, 128, 128, 128, 128, 128, 2}, // 2^64, which wraps to 0
		{129, 128, 128, 128, 128, 128, 128, 128, 128, 2}, // 2^64 + 1, which wraps to 1
	} {
		refused(t, b)
		refused(t, append(bytes.Clone(b), 0))
	}
	for _, x := range []byte{128, 129, 254, 255} {
		refused(t, bytes.Repeat([]byte{x}, 1<<16))
	}
}

// P1.2: what is handed in stays as it was, what lies behind it in its memory too.
func TestGetOnlyReads(t *testing.T) {
	for _, b := range [][]byte{{172, 2, 9}, {128, 0}, {128, 128}, {255, 255, 255, 255, 255, 255, 255}, {5, 6, 7}} {
		all := append(bytes.Clone(b), 77, 78, 79)
		was := bytes.Clone(all)
		Get(all[:len(b)])
		if !bytes.Equal(all, was) {
			t.Errorf("Get(%v) turned it: %v", b, all)
		}
	}
}

// P1.2: Get looks at nothing behind the bytes that are handed in.
func TestGetStaysWithin(t *testing.T) {
	b := []byte{172, 2}
	refused(t, b[:1])
	refused(t, b[:0])
}

// P1.2: two answers share no memory: one stays as it was, whatever becomes of the other one.
func TestPutTellsNewMemory(t *testing.T) {
	for _, c := range written {
		one, _ := Put(c.n)
		two, _ := Put(c.n)
		for i := range one {
			one[i] = ^one[i]
		}
		_ = append(one, 99)
		if !bytes.Equal(two, c.b) {
			t.Errorf("Put(%d), behind a change of another answer: %v; want %v", c.n, two, c.b)
		}
		if three, _ := Put(c.n); !bytes.Equal(three, c.b) {
			t.Errorf("Put(%d) again: %v; want %v", c.n, three, c.b)
		}
		was := bytes.Clone(one)
		Put(1<<40 - c.n)
		if !bytes.Equal(one, was) {
			t.Errorf("an answer was turned by a later call: %v; want %v", one, was)
		}
	}
}

// P1.3: what is written is read back, whatever stands behind.
func TestWrittenIsReadBack(t *testing.T) {
	for _, n := range sample() {
		for _, tail := range [][]byte{nil, {0}, {1}, {127}, {128}, {255}, {128, 0}, {255, 255, 255, 255, 255, 255, 255}} {
			b, e := Put(n)
			m, size, f := Get(append(bytes.Clone(b), tail...))
			if e != api.OK || f != api.OK || m != n || size != len(b) {
				t.Fatalf("%d: %v, %d; with %v behind: %d, %d, %d", n, b, e, tail, m, size, f)
			}
		}
	}
}

// readIsWritten: what Get answers is just what the chapter says of these bytes, and is written as them.
func readIsWritten(t *testing.T, b []byte) {
	n, size, e := Get(b)
	if e != api.OK {
		if e != api.ErrBad || n != 0 || size != 0 {
			t.Fatalf("Get(%v): %d, %d, %d", b, n, size, e)
		}
		return
	}
	if size < 1 || size > len(b) {
		t.Fatalf("Get(%v): %d, %d", b, n, size)
	}
	if back, f := Put(n); f != api.OK || !bytes.Equal(back, b[:size]) {
		t.Fatalf("Get(%v): %d, %d; Put: %v, %d", b, n, size, back, f)
	}
}

// P1.3: what is read is written as just these bytes; here all of one, and of two bytes.
func TestReadIsWritten(t *testing.T) {
	for x := range 256 {
		readIsWritten(t, []byte{byte(x)})
		for y := range 256 {
			readIsWritten(t, []byte{byte(x), byte(y)})
		}
	}
}

// P1.3: and bytes of the edges, up to seven of them.
func TestReadIsWrittenAtEdges(t *testing.T) {
	edges := []byte{0, 1, 31, 32, 33, 127, 128, 129, 255}
	var grow func(b []byte)
	grow = func(b []byte) {
		readIsWritten(t, b)
		if len(b) == 7 || len(b) > 0 && b[len(b)-1] < 128 {
			return
		}
		for _, x := range edges {
			grow(append(bytes.Clone(b), x))
		}
	}
	grow(nil)
}

// P1.3: a lesser number has no more bytes.
func TestLesserIsNoLonger(t *testing.T) {
	was := 0
	last := -1
	for _, n := range sample() {
		b, e := Put(n)
		if n <= last || e != api.OK || len(b) < was {
			t.Fatalf("%d behind %d: %v, %d; before it %d bytes", n, last, b, e, was)
		}
		last, was = n, len(b)
	}
}

// P1: a call ends and doesn't panic, whatever bytes it is given.
func FuzzGet(f *testing.F) {
	for _, c := range written {
		f.Add(c.b)
	}
	f.Add([]byte{128, 0})
	f.Add([]byte{128, 128, 128, 128, 128, 33})
	f.Fuzz(readIsWritten)
}

// P1, P2: and whatever number.
func FuzzPut(f *testing.F) {
	for _, n := range []int{0, 127, 128, 300, 1 << 40, -1, 1<<40 + 1, math.MinInt, math.MaxInt} {
		f.Add(n)
	}
	f.Fuzz(func(t *testing.T, n int) {
		b, e := Put(n)
		if n < 0 || n > 1<<40 {
			if e != api.ErrArg || len(b) != 0 {
				t.Fatalf("Put(%d): %v, %d", n, b, e)
			}
			return
		}
		if m, size, g := Get(b); e != api.OK || g != api.OK || m != n || size != len(b) {
			t.Fatalf("Put(%d): %v, %d; Get: %d, %d, %d", n, b, e, m, size, g)
		}
	})
}
