package frame

import (
	"bytes"
	"encoding/binary"
	"hash/crc32"
	"testing"

	"octavo/api"
)

// made is so many bytes that are made up, always the same for one seed.
func made(seed uint32, many int) []byte {
	b := make([]byte, many)
	for i := range b {
		seed = seed*1664525 + 1013904223
		b[i] = byte(seed >> 24)
	}
	return b
}

// summed is bytes with the four of their sum behind, the lowest first, by the library.
func summed(b ...byte) []byte {
	return binary.LittleEndian.AppendUint32(bytes.Clone(b), crc32.ChecksumIEEE(b))
}

// head is what stands ahead of a body of so many bytes, by the chapter's words.
func head(many int) []byte {
	b := []byte{70}
	for ; many > 127; many /= 128 {
		b = append(b, byte(many%128+128))
	}
	return append(b, byte(many))
}

// inWords is the frame of a body as the chapter's words tell it.
func inWords(body []byte) []byte {
	return summed(append(head(len(body)), body...)...)
}

// bodies is bytes of many lengths and kinds that may be wrapped.
func bodies() [][]byte {
	l := [][]byte{nil, {}, []byte("ab"), []byte("123456789"), {70}, {70, 0}, inWords(nil), inWords([]byte("ab"))}
	for x := range 256 {
		l = append(l, []byte{byte(x)})
	}
	for many := range 140 {
		l = append(l, made(uint32(many), many), make([]byte, many), bytes.Repeat([]byte{255}, many))
	}
	for _, many := range []int{255, 256, 257, 300, 4095, 16256, 16382, 16383, 16384} {
		l = append(l, made(uint32(many), many), make([]byte, many))
	}
	return l
}

func refused(t *testing.T, what string, b []byte) {
	t.Helper()
	if body, e := Open(b); e != api.ErrFrame || len(body) != 0 {
		t.Errorf("Open of %s: %d bytes, %d; want ErrFrame", what, len(body), e)
	}
}

// P3.1, Wrap: frames that are known, byte for byte.
func TestWrapTellsKnown(t *testing.T) {
	for _, c := range []struct {
		body string
		want []byte
	}{
		{"", []byte{70, 0, 0x7c, 0xfa, 0xfa, 0xe7}},
		{"ab", []byte{70, 2, 97, 98, 0x01, 0x56, 0xe5, 0x43}},
		{"123456789", []byte{70, 9, 49, 50, 51, 52, 53, 54, 55, 56, 57, 0x02, 0x64, 0x92, 0x84}},
	} {
		if f, e := Wrap([]byte(c.body)); e != api.OK || !bytes.Equal(f, c.want) {
			t.Errorf("Wrap(%q): % x, %d; want % x", c.body, f, e, c.want)
		}
		if b, e := Open(c.want); e != api.OK || string(b) != c.body {
			t.Errorf("Open(% x): %q, %d; want %q", c.want, b, e, c.body)
		}
	}
}

// P3.1, Wrap: any body that is short enough, the longest one with it.
func TestWrapTellsFrame(t *testing.T) {
	for _, b := range bodies() {
		if f, e := Wrap(b); e != api.OK || !bytes.Equal(f, inWords(b)) {
			t.Errorf("Wrap of %d bytes: %d bytes, %d; want %d bytes", len(b), len(f), e, len(inWords(b)))
		}
	}
	for many, want := range map[int]int{0: 6, 2: 8, 127: 133, 128: 135, 16383: 16390, 16384: 16392} {
		if f, e := Wrap(make([]byte, many)); e != api.OK || len(f) != want {
			t.Errorf("Wrap of %d bytes: %d bytes, %d; want %d", many, len(f), e, want)
		}
	}
}

// P3.1, Wrap: ErrMany, and nothing beside it, for more than MaxFrame bytes.
func TestWrapRefusesMany(t *testing.T) {
	for _, many := range []int{16385, 16386, 16384 + 128, 32768, 1<<16 + 2, 1 << 21, 1<<24 + 1} {
		if f, e := Wrap(make([]byte, many)); e != api.ErrMany || len(f) != 0 {
			t.Errorf("Wrap of %d bytes: %d bytes, %d; want ErrMany", many, len(f), e)
		}
	}
}

// P3.1, Open: a frame's body.
func TestOpenTellsBody(t *testing.T) {
	for _, b := range bodies() {
		if body, e := Open(inWords(b)); e != api.OK || !bytes.Equal(body, b) {
			t.Errorf("Open of the frame of %d bytes: %d bytes, %d", len(b), len(body), e)
		}
	}
}

// P3.1, Open: bytes too few to be a frame, their sum right or not.
func TestOpenRefusesFew(t *testing.T) {
	refused(t, "nil", nil)
	refused(t, "no bytes", []byte{})
	refused(t, "70 alone", []byte{70})
	refused(t, "70 and 0 alone", []byte{70, 0})
	refused(t, "a sum of nothing", summed())
	refused(t, "a first byte with its sum", summed(70))
	refused(t, "a length with its sum", summed(0))
	for many := range 20 {
		refused(t, "noughts", make([]byte, many))
		refused(t, "seventies", bytes.Repeat([]byte{70}, many))
		refused(t, "ones", bytes.Repeat([]byte{255}, many))
	}
}

// P3.1, Open: another first byte, with a right sum.
func TestOpenRefusesFirst(t *testing.T) {
	for x := range 256 {
		if x == 70 {
			continue
		}
		refused(t, "another first byte ahead of no body", summed(byte(x), 0))
		refused(t, "another first byte", summed(byte(x), 2, 97, 98))
		refused(t, "a byte ahead of a frame", append([]byte{byte(x)}, inWords([]byte("ab"))...))
		refused(t, "a byte ahead of all but the sum", summed(byte(x), 70, 2, 97, 98))
	}
	refused(t, "a frame without its first byte", summed(2, 97, 98))
}

// P3.1, Open: a length that is not written as few bytes as can be, with a right sum.
func TestOpenRefusesLongLength(t *testing.T) {
	refused(t, "128 0 for 0", summed(70, 128, 0))
	refused(t, "128 128 0 for 0", summed(70, 128, 128, 0))
	refused(t, "130 0 for 2", summed(70, 130, 0, 97, 98))
	refused(t, "130 128 128 128 128 0 for 2", summed(70, 130, 128, 128, 128, 128, 0, 97, 98))
	refused(t, "255 0 for 127", summed(append([]byte{70, 255, 0}, make([]byte, 127)...)...))
	refused(t, "128 129 0 for 128", summed(append([]byte{70, 128, 129, 0}, make([]byte, 128)...)...))
}

// P3.1, Open: a length that doesn't fit, with a right sum.
func TestOpenRefusesLengthThatDoesNotFit(t *testing.T) {
	for many := range 135 {
		for _, says := range []int{0, 1, 2, 4, 70, 126, 127, 128, 129, 16384, many - 1, many + 1, many + 4, many + 128} {
			if says != many && says >= 0 {
				refused(t, "another length", summed(append(head(says), made(3, many)...)...))
			}
		}
	}
	for _, says := range []int{16383, 16385, 1 << 31, 1<<32 + 16384, 1<<40 - 1, 1 << 40, 1<<40 + 1, 1<<42 - 1, 1 << 62, 1<<63 - 1} {
		refused(t, "another length", summed(append(head(says), make([]byte, 16384)...)...))
		refused(t, "another length ahead of nothing", summed(head(says)...))
	}
	// 2^64 + 2, which wraps to 2
	refused(t, "a length that wraps", summed(70, 130, 128, 128, 128, 128, 128, 128, 128, 128, 2, 97, 98))
	refused(t, "a length that breaks off", summed(70, 130))
	refused(t, "a length that goes on in the sum", []byte{70, 130, 128, 128, 128, 0})
}

// P3.1, Open: a body of more than MaxFrame bytes, with a length and a sum that are right.
func TestOpenRefusesMany(t *testing.T) {
	for _, many := range []int{16385, 16386, 16384 + 128, 32768, 1 << 20} {
		refused(t, "too many bytes", inWords(made(4, many)))
	}
}

// P3.1, Open: another sum, of other bytes, in another order, or by another table.
func TestOpenRefusesSum(t *testing.T) {
	for _, b := range [][]byte{nil, []byte("ab"), make([]byte, 9), made(5, 300), make([]byte, 16384)} {
		all := append(head(len(b)), b...)
		n := crc32.ChecksumIEEE(all)
		for what, sum := range map[string]uint32{
			"no sum": 0, "all ones": 1<<32 - 1, "turned bits": ^n, "one more": n + 1, "one less": n - 1,
			"the sum of the body alone": crc32.ChecksumIEEE(b), "the sum without the first byte": crc32.ChecksumIEEE(all[1:]),
			"the sum of another table": crc32.Checksum(all, crc32.MakeTable(crc32.Castagnoli)),
		} {
			if sum != n {
				refused(t, what, binary.LittleEndian.AppendUint32(bytes.Clone(all), sum))
			}
		}
		refused(t, "the highest byte first", binary.BigEndian.AppendUint32(bytes.Clone(all), n))
	}
}

// P3.2: what is handed in stays as it was, what lies around it in its memory too.
func TestOnlyReads(t *testing.T) {
	for _, b := range bodies() {
		f := inWords(b)
		for _, in := range [][]byte{b, f, f[:len(f)-1], append(bytes.Clone(f), 0)} {
			all := append(append([]byte{1, 2, 3}, in...), 77, 78, 79, 80, 81, 82, 83, 84, 85, 86)
			was := bytes.Clone(all)
			Wrap(all[3 : 3+len(in)])
			Open(all[3 : 3+len(in)])
			if !bytes.Equal(all, was) {
				t.Fatalf("%d bytes were turned", len(in))
			}
		}
	}
}

// P3.1, P3.2: what lies around the bytes that are handed in tells nothing.
func TestStaysWithin(t *testing.T) {
	for _, b := range bodies() {
		f := inWords(b)
		all := append(append([]byte{70, 0}, f...), 70, 0, 1, 2)
		if body, e := Open(all[2 : 2+len(f)]); e != api.OK || !bytes.Equal(body, b) {
			t.Errorf("Open of the frame of %d bytes among others: %d bytes, %d", len(b), len(body), e)
		}
		refused(t, "a frame's beginning, the rest behind it", f[:len(f)-1])
		refused(t, "a frame's beginning, the rest behind it", f[:len(f)-4])
	}
}

// P3.2: an answer shares no memory with what was handed in, nor with another answer.
func TestTellsNewMemory(t *testing.T) {
	for _, b := range bodies() {
		in, f := bytes.Clone(b), inWords(b)
		one, _ := Wrap(in)
		two, _ := Wrap(in)
		body, _ := Open(f)
		same, _ := Open(f)
		for _, l := range [][]byte{in, f, one, body} {
			for i := range l {
				l[i] = ^l[i]
			}
		}
		_, _ = append(one, 99), append(body, 99)
		if !bytes.Equal(two, inWords(b)) || !bytes.Equal(same, b) {
			t.Fatalf("%d bytes: an answer was turned with what was handed in, or with another one", len(b))
		}
		for i := range b {
			if in[i] != ^b[i] || body[i] != ^b[i] {
				t.Fatalf("%d bytes: what one was turned to was turned in another one too", len(b))
			}
		}
	}
}

// P3.1, P3.2: nothing is kept from call to call.
func TestKeepsNothing(t *testing.T) {
	all := [][]byte{nil, []byte("ab"), []byte("ba"), made(1, 200), make([]byte, 16384)}
	for _, one := range all {
		for _, two := range all {
			first, _ := Wrap(one)
			was := bytes.Clone(first)
			if f, e := Wrap(two); e != api.OK || !bytes.Equal(f, inWords(two)) || !bytes.Equal(first, was) {
				t.Errorf("Wrap of %d bytes behind one of %d: %d", len(two), len(one), e)
			}
			body, _ := Open(first)
			Open(first[1:])
			if b, e := Open(inWords(two)); e != api.OK || !bytes.Equal(b, two) || !bytes.Equal(body, one) {
				t.Errorf("Open of %d bytes behind one of %d: %d", len(two), len(one), e)
			}
		}
	}
}

// P3.3: what is wrapped is opened; what is opened is wrapped as just these bytes.
func TestThereAndBack(t *testing.T) {
	for _, b := range bodies() {
		f, _ := Wrap(b)
		body, e := Open(f)
		if e != api.OK || !bytes.Equal(body, b) {
			t.Fatalf("%d bytes, wrapped and opened: %d bytes, %d", len(b), len(body), e)
		}
		if again, e := Wrap(body); e != api.OK || !bytes.Equal(again, f) {
			t.Fatalf("a frame of %d bytes, opened and wrapped: %d bytes, %d", len(f), len(again), e)
		}
	}
}

// P3.3: no beginning of a frame is one, and none with bytes behind.
func TestBeginningsAndMoreTell(t *testing.T) {
	for _, b := range [][]byte{nil, []byte("ab"), make([]byte, 40), inWords(nil), inWords(inWords([]byte("ab"))), made(6, 127), made(7, 300)} {
		f, _ := Wrap(b)
		for many := range f {
			refused(t, "a beginning", f[:many])
		}
		for x := range 256 {
			refused(t, "a frame with a byte behind", append(bytes.Clone(f), byte(x)))
		}
		for _, tail := range [][]byte{{0, 0}, make([]byte, 4), f, f[:1], f[len(f)-4:], make([]byte, 128), make([]byte, 1<<16)} {
			refused(t, "a frame with bytes behind", append(bytes.Clone(f), tail...))
		}
		refused(t, "a frame with its own sum behind", summed(f...))
	}
	f, _ := Wrap(make([]byte, 16384))
	for _, many := range []int{0, 1, 2, 3, 4, 5, 8, 4096, 16384, 16387, 16388, 16389, 16390, 16391} {
		refused(t, "a beginning of the longest frame", f[:many])
	}
	refused(t, "the longest frame with a byte behind", append(f, 0))
}

// turned is bytes of which four, or fewer at the end, are put together with a mask, its lowest byte first.
func turned(b []byte, at int, mask uint32) []byte {
	b = bytes.Clone(b)
	for i := range min(4, len(b)-at) {
		b[at+i] ^= byte(mask >> (8 * i))
	}
	return b
}

// P3.3, V7: where one byte of a frame, or two side by side, are turned, in whatever way, it is none.
func TestTurnedTwoTell(t *testing.T) {
	for _, b := range [][]byte{nil, []byte("ab"), []byte("123456789")} {
		f, _ := Wrap(b)
		for at := range f {
			for mask := uint32(1); mask < 1<<16; mask++ {
				if at == len(f)-1 && mask > 255 {
					break
				}
				if _, e := Open(turned(f, at, mask)); e != api.ErrFrame {
					t.Fatalf("the frame of %q, from %d on turned by %04x, is opened: %d", b, at, mask, e)
				}
			}
		}
	}
}

// P3.3, V7: where up to four bytes side by side are turned, here each bit alone, and in many ways, it is none.
func TestTurnedFourTell(t *testing.T) {
	for _, b := range [][]byte{nil, []byte("ab"), make([]byte, 5), bytes.Repeat([]byte{255}, 40), made(8, 127), made(9, 130)} {
		f, _ := Wrap(b)
		for at := range f {
			masks := []uint32{1<<32 - 1, 0x01010101, 0x80808080, 0xedb88320, 0x04c11db7}
			for bit := range 32 {
				masks = append(masks, 1<<bit, 1<<31|1<<bit, uint32(bit+1)*2654435761, uint32(at*32+bit+1)*1048583)
			}
			for _, mask := range masks {
				if c := turned(f, at, mask); !bytes.Equal(c, f) {
					refused(t, "a frame that was turned", c)
				}
			}
		}
	}
}

// P3.3, V7: nor where its length is turned to any other one.
func TestTurnedHeadTells(t *testing.T) {
	for _, many := range []int{0, 1, 2, 3, 120, 127, 128, 129, 300} {
		f, _ := Wrap(made(10, many))
		for says := range 400 {
			c := append(head(says), f[len(head(says)):]...)
			if !bytes.Equal(c, f) {
				refused(t, "a frame with another length", c)
			}
		}
	}
}

// P1, P2, P3.3: whatever bytes are wrapped.
func FuzzWrap(f *testing.F) {
	for _, s := range []string{"", "ab", "\x46\x00", "123456789"} {
		f.Add([]byte(s), 0, uint32(1))
	}
	f.Fuzz(func(t *testing.T, b []byte, at int, mask uint32) {
		was := bytes.Clone(b)
		w, e := Wrap(b)
		if len(b) > 16384 {
			if e != api.ErrMany || len(w) != 0 {
				t.Fatalf("Wrap of %d bytes: %d bytes, %d", len(b), len(w), e)
			}
			return
		}
		if e != api.OK || !bytes.Equal(w, inWords(b)) || !bytes.Equal(b, was) {
			t.Fatalf("Wrap(%v): %v, %d", was, w, e)
		}
		if body, e := Open(w); e != api.OK || !bytes.Equal(body, b) {
			t.Fatalf("Open(%v): %v, %d", w, body, e)
		}
		c := turned(w, int(uint(at)%uint(len(w))), mask)
		if _, e := Open(c); !bytes.Equal(c, w) && e != api.ErrFrame {
			t.Fatalf("%v turned to %v is opened: %d", w, c, e)
		}
	})
}

// P1, P2, P3.3: whatever bytes are opened, with a right sum behind them or not.
func FuzzOpen(f *testing.F) {
	for _, b := range [][]byte{nil, {70}, {70, 0}, {70, 2, 97, 98}, {70, 128, 0}, inWords(nil), inWords([]byte("ab"))} {
		f.Add(b)
	}
	f.Fuzz(func(t *testing.T, b []byte) {
		for _, in := range [][]byte{b, summed(b...)} {
			was := bytes.Clone(in)
			body, e := Open(in)
			if e == api.OK && !bytes.Equal(inWords(body), in) || e != api.OK && (e != api.ErrFrame || len(body) != 0) || !bytes.Equal(in, was) {
				t.Fatalf("Open(%v): %v, %d", was, body, e)
			}
		}
	})
}
