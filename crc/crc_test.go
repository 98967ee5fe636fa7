package crc

import (
	"bytes"
	"hash/crc32"
	"testing"
)

// inWords is the table as the chapter's words tell it.
func inWords() [256]uint32 {
	var t [256]uint32
	for at := 0; at < 256; at++ {
		n := at
		for times := 0; times < 8; times++ {
			if n%2 == 1 {
				n = n/2 ^ 0xedb88320
			} else {
				n = n / 2
			}
		}
		t[at] = uint32(n)
	}
	return t
}

// sumInWords is the sum as the chapter's words tell it.
func sumInWords(t [256]uint32, b []byte) uint32 {
	n := uint64(1<<32 - 1)
	for _, x := range b {
		n = uint64(t[n%256^uint64(x)]) ^ n/256
	}
	return uint32(1<<32 - 1 - n)
}

// made is so many bytes that are made up, always the same for one seed.
func made(seed uint32, many int) []byte {
	b := make([]byte, many)
	for i := range b {
		seed = seed*1664525 + 1013904223
		b[i] = byte(seed >> 24)
	}
	return b
}

// named is a table, and what the tests call it.
type named struct {
	name string
	t    [256]uint32
}

// tables is the chapter's own table, and others that have nothing to do with it.
func tables() []named {
	var ones, same, high, wild [256]uint32
	seed := uint32(7)
	for at := range 256 {
		ones[at] = 1<<32 - 1
		same[at] = uint32(at)
		high[at] = uint32(255-at) << 24
		seed = seed*1664525 + 1013904223
		wild[at] = seed ^ seed>>13
	}
	return []named{
		{"the chapter's", inWords()}, {"noughts", [256]uint32{}}, {"ones", ones}, {"each its place", same},
		{"high bytes", high}, {"made up", wild}, {"another fold", *crc32.MakeTable(crc32.Castagnoli)},
	}
}

// texts is bytes of many lengths and kinds.
func texts() [][]byte {
	l := [][]byte{nil, {}, []byte("a"), []byte("abc"), []byte("123456789"), []byte("The quick brown fox jumps over the lazy dog")}
	for x := range 256 {
		l = append(l, []byte{byte(x)}, bytes.Repeat([]byte{byte(x)}, 3))
	}
	for many := range 70 {
		l = append(l, made(uint32(many), many), make([]byte, many), bytes.Repeat([]byte{255}, many))
	}
	return append(l, made(1, 255), made(2, 256), made(3, 257), made(4, 4095), made(5, 16384), made(6, 1<<20+3))
}

// P2.1, Table: its edges, and numbers of it that are known.
func TestTableTellsKnown(t *testing.T) {
	table := Table()
	for at, want := range map[int]uint32{0: 0, 1: 0x77073096, 2: 0xee0e612c, 8: 0x0edb8832, 16: 0x1db71064, 128: 0xedb88320, 254: 0x5a05df1b, 255: 0x2d02ef8d} {
		if table[at] != want {
			t.Errorf("the table at %d: %08x; want %08x", at, table[at], want)
		}
	}
}

// P2.1, Table: all of it, by the chapter's words and by the library.
func TestTableTellsAll(t *testing.T) {
	table := Table()
	if want := inWords(); table != want {
		t.Errorf("the table isn't the chapter's: %08x; want %08x", table, want)
	}
	if table != *crc32.IEEETable {
		t.Error("the table isn't the library's")
	}
}

// P2.1, Table: each answer is a table of its own, and none is kept.
func TestTableIsNew(t *testing.T) {
	want := inWords()
	one := Table()
	for at := range one {
		one[at] = ^one[at]
	}
	if two := Table(); two != want {
		t.Error("a table that was changed came again")
	}
	Sum([256]uint32{5: 77}, []byte("abc"))
	if Table() != want {
		t.Error("another table was kept")
	}
}

// P2.1, Sum: sums by the table that are known.
func TestSumTellsKnown(t *testing.T) {
	table := inWords()
	for _, c := range []struct {
		text string
		want uint32
	}{
		{"", 0}, {"a", 0xe8b7be43}, {"abc", 0x352441c2}, {"123456789", 0xcbf43926}, {"\x00", 0xd202ef8d}, {"\xff", 0xff000000},
		{"\x00\x00\x00\x00", 0x2144df1c}, {"\xff\xff\xff\xff", 0xffffffff}, {"The quick brown fox jumps over the lazy dog", 0x414fa339},
	} {
		if n := Sum(table, []byte(c.text)); n != c.want {
			t.Errorf("Sum of %q: %08x; want %08x", c.text, n, c.want)
		}
		if n := Sum(Table(), []byte(c.text)); n != c.want {
			t.Errorf("Sum of %q by Table's: %08x; want %08x", c.text, n, c.want)
		}
	}
}

// P2.1, Sum: no bytes have 0, by any table.
func TestSumOfNone(t *testing.T) {
	for _, c := range tables() {
		for _, b := range [][]byte{nil, {}, []byte("abc")[:0]} {
			if n := Sum(c.t, b); n != 0 {
				t.Errorf("Sum of none by %s: %08x", c.name, n)
			}
		}
	}
}

// P2.1, Sum: by a table of noughts each byte, whatever it is, only moves the number down.
func TestSumByNoughts(t *testing.T) {
	var noughts [256]uint32
	for many, want := range []uint32{0, 0xff000000, 0xffff0000, 0xffffff00, 0xffffffff, 0xffffffff, 0xffffffff} {
		for _, x := range []byte{0, 1, 127, 128, 255} {
			if n := Sum(noughts, bytes.Repeat([]byte{x}, many)); n != want {
				t.Errorf("Sum of %d times %d by noughts: %08x; want %08x", many, x, n, want)
			}
		}
	}
}

// P2.1, Sum: one byte takes what the table has at the exclusive or of it and 255, and nothing else.
func TestSumTakesOnePlace(t *testing.T) {
	for at := range 256 {
		var table [256]uint32
		table[at] = 0x80402010
		for x := range 256 {
			want := uint32(0xff000000)
			if x^255 == at {
				want ^= 0x80402010
			}
			if n := Sum(table, []byte{byte(x)}); n != want {
				t.Fatalf("Sum of %d by a table with %d alone: %08x; want %08x", x, at, n, want)
			}
		}
	}
}

// P2.1, Sum: by any table, of any bytes, by the chapter's words and by the library.
func TestSumByAnyTable(t *testing.T) {
	for _, c := range tables() {
		for _, b := range texts() {
			n, want := Sum(c.t, b), sumInWords(c.t, b)
			if n != want || want != crc32.Update(0, (*crc32.Table)(&c.t), b) {
				t.Errorf("Sum of %d bytes by %s: %08x; want %08x", len(b), c.name, n, want)
			}
		}
	}
}

// P2.1, Sum: it hangs on the bytes and the table alone, not on what was asked ahead.
func TestSumKeepsNothing(t *testing.T) {
	all := tables()
	b := made(9, 100)
	for _, one := range all {
		for _, two := range all {
			Sum(one.t, b)
			Sum(two.t, b[:50])
			if n, want := Sum(two.t, b), sumInWords(two.t, b); n != want {
				t.Errorf("Sum by %s behind one by %s: %08x; want %08x", two.name, one.name, n, want)
			}
		}
	}
}

// P2.2: what is handed in stays as it was, what lies around it in its memory too.
func TestSumOnlyReads(t *testing.T) {
	for _, c := range tables() {
		for _, b := range texts() {
			all := append(append([]byte{1, 2, 3}, b...), 77, 78, 79)
			was, table := bytes.Clone(all), c.t
			Sum(table, all[3:3+len(b)])
			if !bytes.Equal(all, was) || table != c.t {
				t.Fatalf("Sum of %d bytes by %s turned what was handed in", len(b), c.name)
			}
		}
	}
}

// P2.1, P2.2: Sum looks at nothing around the bytes that are handed in.
func TestSumStaysWithin(t *testing.T) {
	table := inWords()
	for _, b := range texts() {
		all := append(append([]byte{1, 2, 3}, b...), 77, 78, 79)
		if n, want := Sum(table, all[3:3+len(b)]), sumInWords(table, b); n != want {
			t.Errorf("Sum of %d bytes among others: %08x; want %08x", len(b), n, want)
		}
	}
}

// turned is bytes of which four, or fewer at the end, are put together with a mask, its lowest byte first.
func turned(b []byte, at int, mask uint32) []byte {
	b = bytes.Clone(b)
	for i := range min(4, len(b)-at) {
		b[at+i] ^= byte(mask >> (8 * i))
	}
	return b
}

// P2.3: where one byte, or two side by side, are turned, in whatever way, the sum is another one.
func TestTurnedTwoTell(t *testing.T) {
	table := Table()
	for _, b := range [][]byte{[]byte("123456789"), make([]byte, 6), bytes.Repeat([]byte{255}, 5), made(3, 40)} {
		was := Sum(table, b)
		for _, at := range []int{0, 1, len(b) / 2, len(b) - 2, len(b) - 1} {
			for mask := uint32(1); mask < 1<<16; mask++ {
				if at == len(b)-1 && mask > 255 {
					break
				}
				if Sum(table, turned(b, at, mask)) == was {
					t.Fatalf("%v: the two bytes from %d on turned by %04x aren't told", b, at, mask)
				}
			}
		}
	}
}

// P2.3: where three or four bytes side by side are turned, in very many ways, the sum is another one.
func TestTurnedFourTell(t *testing.T) {
	table := Table()
	for _, b := range [][]byte{[]byte("123456789"), make([]byte, 4), bytes.Repeat([]byte{255}, 7), made(5, 33)} {
		was := Sum(table, b)
		for at := range len(b) - 3 {
			for i := range uint32(1 << 12) {
				for _, mask := range []uint32{i*1048583 + 1, i<<20 | 1, (i + 1) << 12, table[i%256], ^table[i%256]} {
					if mask != 0 && Sum(table, turned(b, at, mask)) == was {
						t.Fatalf("%v: the four bytes from %d on turned by %08x aren't told", b, at, mask)
					}
				}
			}
		}
	}
}

// P2.3: what turning one bit of four bytes makes of the sum can't be made up of what turning others does;
// and bits turned together make what each makes alone, put together (tried here on samples): so none of the 2^32 ways leaves the sum.
func TestTurnedBitsAreFree(t *testing.T) {
	table := Table()
	for _, many := range []int{4, 5, 9, 40, 300} {
		b := made(11, many)
		was := Sum(table, b)
		for _, at := range []int{0, (many - 4) / 2, many - 4} {
			var lead [32]uint32 // by its highest bit, what was found so far
			for bit := range 32 {
				if !put(&lead, was^Sum(table, turned(b, at, 1<<bit))) {
					t.Fatalf("of %d bytes from %d on: bit %d tells nothing of its own", many, at, bit)
				}
			}
			for i := range uint32(1000) {
				one, two := i*2654435761+1, i*40503+77
				if was^Sum(table, turned(b, at, one))^Sum(table, turned(b, at, two)) != Sum(table, turned(b, at, one^two)) {
					t.Fatalf("of %d bytes from %d on: %08x and %08x don't add up", many, at, one, two)
				}
			}
		}
	}
}

// put adds a number to those that can't be made up of each other, unless it can be.
func put(lead *[32]uint32, n uint32) bool {
	for bit := 31; bit >= 0; bit-- {
		if n>>bit == 0 {
			continue
		}
		if lead[bit] == 0 {
			lead[bit] = n
			return true
		}
		n ^= lead[bit]
	}
	return false
}

// own is a text with the four bytes of its own sum behind it, the lowest first.
func own(b []byte) []byte {
	n := Sum(Table(), b)
	return append(bytes.Clone(b), byte(n), byte(n>>8), byte(n>>16), byte(n>>24))
}

// P2.3: behind the four bytes of its own sum each text has one sum, that of no text's.
func TestOwnSumTellsOne(t *testing.T) {
	table := Table()
	for _, b := range texts() {
		if n := Sum(table, own(b)); n != 0x2144df1c {
			t.Errorf("Sum of %d bytes with their own sum behind: %08x; want 2144df1c", len(b), n)
		}
	}
}

// P1, P2: whatever bytes, and whatever table.
func FuzzSum(f *testing.F) {
	for _, s := range []string{"", "\x00", "abc", "123456789"} {
		f.Add([]byte(s), []byte(nil))
		f.Add([]byte(s), []byte("a table"))
	}
	f.Fuzz(func(t *testing.T, b, rest []byte) {
		var table [256]uint32
		for i, x := range rest {
			table[i%256] = table[i%256]*131 + uint32(x)
		}
		was := bytes.Clone(b)
		if n, want := Sum(table, b), sumInWords(table, b); n != want || !bytes.Equal(b, was) {
			t.Fatalf("Sum(%08x, %v): %08x; want %08x", table, was, n, want)
		}
		if n := Sum(Table(), own(b)); n != 0x2144df1c {
			t.Fatalf("Sum of %v with its own sum behind: %08x", b, n)
		}
	})
}
