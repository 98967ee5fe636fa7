package point

import (
	"bytes"
	"math"
	"slices"
	"strings"
	"testing"
	"unicode/utf8"

	"octavo/api"
)

// isPoint is what a code point is, by the chapter's words.
func isPoint(n int) bool {
	return 0 <= n && n <= 0x10ffff && !(0xd800 <= n && n <= 0xdfff)
}

// sized is a number written with so many bytes, whether it is a code point's way or not.
func sized(n, many int) []byte {
	switch many {
	case 1:
		return []byte{byte(n)}
	case 2:
		return []byte{0xc0 + byte(n/64), 0x80 + byte(n%64)}
	case 3:
		return []byte{0xe0 + byte(n/4096), 0x80 + byte(n/64%64), 0x80 + byte(n%64)}
	}
	return []byte{0xf0 + byte(n/262144), 0x80 + byte(n/4096%64), 0x80 + byte(n/64%64), 0x80 + byte(n%64)}
}

// inWords is a code point's bytes as the chapter's words tell them.
func inWords(n int) []byte {
	switch {
	case n < 0x80:
		return sized(n, 1)
	case n < 0x800:
		return sized(n, 2)
	case n < 0x10000:
		return sized(n, 3)
	}
	return sized(n, 4)
}

// allInWords is the bytes of code points, one behind the other.
func allInWords(l []int) string {
	var b []byte
	for _, n := range l {
		b = append(b, inWords(n)...)
	}
	return string(b)
}

// lead is the code point whose bytes a text begins with: each number that up to four bytes may stand for is written, and held against them.
func lead(s string) (n, size int) {
	for many := 1; many <= min(4, len(s)); many++ {
		n := int(s[0])
		if many > 1 {
			n = int(s[0]) % (256 >> (many + 1))
		}
		for _, x := range []byte(s[1:many]) {
			n = n*64 + int(x%64)
		}
		if isPoint(n) && string(inWords(n)) == s[:many] {
			return n, many
		}
	}
	return 0, 0
}

// pointsInWords is what Points has to answer.
func pointsInWords(s string) ([]int, api.Errno) {
	var l []int
	for len(s) > 0 {
		n, size := lead(s)
		if size == 0 {
			return nil, api.ErrPoint
		}
		l, s = append(l, n), s[size:]
	}
	if len(l) > 1024 {
		return nil, api.ErrMany
	}
	return l, api.OK
}

// edges is code points of one, two, three and four bytes, those at each end with them, and those beside what is none.
var edges = []int{
	0, 1, 9, 10, 65, 97, 0x7e, 0x7f,
	0x80, 0x81, 0xbf, 0xc0, 0xe9, 0xff, 0x100, 0x7bf, 0x7c0, 0x7fe, 0x7ff,
	0x800, 0x801, 0xfff, 0x1000, 0x20ac, 0xcfff, 0xd000, 0xd7fe, 0xd7ff, 0xe000, 0xe001, 0xfeff, 0xfffc, 0xfffd, 0xfffe, 0xffff,
	0x10000, 0x10001, 0x1f600, 0x3ffff, 0x40000, 0xfffff, 0x100000, 0x10fffe, 0x10ffff,
}

// none is numbers that are no code points, those with them that would be some if bits of them were cut off.
var none = []int{
	-1, -2, -97, -128, -0xd800, -0xfffd, -0x10ffff, -(1 << 31), -(1 << 31) - 1, -(1 << 32), -(1 << 32) + 97, math.MinInt, math.MinInt + 97,
	0xd800, 0xd801, 0xdbff, 0xdc00, 0xdffe, 0xdfff,
	0x110000, 0x110001, 0x10ffff + 0xd800, 0x1fffff, 0x200000, 1 << 30, 1<<31 - 1, 1 << 31, 1<<32 - 1, 1 << 32, 1<<32 + 97, 1<<32 + 0xfffd, 1 << 40, 1<<62 + 97, math.MaxInt - 1, math.MaxInt,
}

// broken is bytes that are no code points' bytes, whatever valid text stands ahead or behind.
func broken() []string {
	l := []string{
		"\xc3", "\xc2", "\xdf", "\xe2", "\xe2\x82", "\xef", "\xef\xbf", "\xed", "\xed\x9f", "\xf0", "\xf0\x9f", "\xf0\x9f\x98", "\xf4", "\xf4\x8f\xbf", // break off
		"\x80", "\xbf", "\xc0", "\xc1", "\xf5", "\xf8", "\xfc", "\xfe", "\xff", "\xf5\x80\x80\x80", "\xf8\x88\x80\x80\x80", "\xfc\x84\x80\x80\x80\x80", // begin none
		"\xc0\x80", "\xc1\xbf", "\xe0\x80\x80", "\xe0\x9f\xbf", "\xf0\x80\x80\x80", "\xf0\x8f\xbf\xbf", "\xf0\x8f\xbf\xbd", // more bytes than the chapter's
		"\xed\xa0\x80", "\xed\xaf\xbf", "\xed\xb0\x80", "\xed\xbf\xbf", "\xed\xa0\xbd\xed\xb8\x80", // from d800 to dfff
		"\xf4\x90\x80\x80", "\xf4\xbf\xbf\xbf", "\xf7\xbf\xbf\xbf", // above 10ffff
		"\xe2\x82\x41", "\xe2\x41\xac", "\xc3\x41", "\xf0\x9f\x98\x41", "\xef\xbf\x7d", "\xef\xbf\xc3", // another byte where one behind has to stand
		"\xef\xbf\xef\xbf\xbd", "\xef\xef\xbf\xbd", "\xff\xef\xbf\xbd", "\xef\xbf\xbd\xff", "\xef\xbf\xbd\xbd", "\xf0\x8f\xbf\xbd\xef\xbf\xbd", // beside what stands for them
		"\xc3\xa9\xa9", "\xe2\x82\xac\x80", "\xf0\x9f\x98\x80\x80", "\xff\xfe", "\xfe\xff\x00\x61", "\x61\x00\xd8", // one too many; other ways to write
	}
	for n := 0xd800; n <= 0xdfff; n += 0x55 {
		l = append(l, string(sized(n, 3)))
	}
	for _, n := range edges {
		for many := len(inWords(n)) + 1; many <= 4; many++ {
			l = append(l, string(sized(n, many)))
		}
		for many := 1; many < len(inWords(n)); many++ {
			l = append(l, string(inWords(n)[:many]))
			l = append(l, string(inWords(n)[many:]))
		}
	}
	return l
}

// some is so many code points of all sizes.
func some(seed, many int) []int {
	l := make([]int, many)
	for i := range l {
		seed = (seed*1103515245 + 12345) % (1 << 31)
		l[i] = seed >> 8 % (1 << (3 + seed>>5%18))
		if !isPoint(l[i]) {
			l[i] = edges[i%len(edges)]
		}
	}
	return l
}

// lists is code points of many lengths and kinds that have a text.
func lists() [][]int {
	l := [][]int{nil, {}, edges, {97, 98}, {0}, {0, 0}, {0xfffd}, {0xfffd, 0xfffd}, {97, 0xfffd, 0x1f600, 0xfffd}}
	for _, n := range edges {
		l = append(l, []int{n}, []int{n, n}, []int{97, n, 98}, slices.Repeat([]int{n}, 1023), slices.Repeat([]int{n}, 1024))
	}
	for many := range 70 {
		l = append(l, some(many, many))
	}
	return append(l, some(1, 255), some(2, 256), some(3, 257), some(4, 1022), some(5, 1023), some(6, 1024))
}

func refused(t *testing.T, s string, want api.Errno) {
	t.Helper()
	if l, e := Points(s); e != want || len(l) != 0 {
		t.Errorf("Points of %d bytes, % x: %d code points, %d; want %d", len(s), s[:min(len(s), 20)], len(l), e, want)
	}
}

func refusedList(t *testing.T, l []int, want api.Errno) {
	t.Helper()
	if s, e := Text(l); e != want || s != "" {
		t.Errorf("Text of %d numbers, %x: %d bytes, %d; want %d", len(l), l[:min(len(l), 20)], len(s), e, want)
	}
}

// P4.1, Check: every number up to beyond MaxPoint, and some below 0.
func TestCheckTellsEach(t *testing.T) {
	for n := -0x10000; n <= 0x120000; n++ {
		want := api.ErrPoint
		if isPoint(n) {
			want = api.OK
		}
		if e := Check(n); e != want {
			t.Fatalf("Check(%x): %d; want %d", n, e, want)
		}
	}
}

// P4.1, Check: the edges that the chapter names, and numbers far off.
func TestCheckTellsEdges(t *testing.T) {
	for _, n := range append(slices.Clone(edges), 0, 0xd7ff, 0xe000, 0x10ffff) {
		if e := Check(n); e != api.OK {
			t.Errorf("Check(%x): %d; want OK", n, e)
		}
	}
	for _, n := range append(slices.Clone(none), -1, 0xd800, 0xdfff, 0x110000) {
		if e := Check(n); e != api.ErrPoint {
			t.Errorf("Check(%x): %d; want ErrPoint", n, e)
		}
	}
}

// P4.1, Points and Text: texts and code points that are known, byte for byte.
func TestTellsKnown(t *testing.T) {
	for _, c := range []struct {
		s string
		l []int
	}{
		{"", nil},
		{"ab", []int{97, 98}},
		{"\x00", []int{0}},
		{"\x7f", []int{0x7f}},
		{"\xc2\x80", []int{0x80}},
		{"\xc3\xa9", []int{0xe9}},
		{"\xdf\xbf", []int{0x7ff}},
		{"\xe0\xa0\x80", []int{0x800}},
		{"\xe2\x82\xac", []int{8364}},
		{"\xed\x9f\xbf", []int{0xd7ff}},
		{"\xee\x80\x80", []int{0xe000}},
		{"\xef\xbb\xbfa", []int{0xfeff, 97}},
		{"\xef\xbf\xbc", []int{0xfffc}},
		{"\xef\xbf\xbd", []int{65533}},
		{"\xef\xbf\xbe", []int{0xfffe}},
		{"\xef\xbf\xbf", []int{0xffff}},
		{"\xf0\x90\x80\x80", []int{0x10000}},
		{"\xf0\x9f\x98\x80", []int{128512}},
		{"\xf4\x8f\xbf\xbf", []int{0x10ffff}},
		{"e\xcc\x81\r\n", []int{101, 0x301, 13, 10}},
		{"a\xef\xbf\xbdb\xf0\x9f\x98\x80\xef\xbf\xbd", []int{97, 0xfffd, 98, 0x1f600, 0xfffd}},
	} {
		if l, e := Points(c.s); e != api.OK || !slices.Equal(l, c.l) {
			t.Errorf("Points(% x): %x, %d; want %x", c.s, l, e, c.l)
		}
		if s, e := Text(c.l); e != api.OK || s != c.s {
			t.Errorf("Text(%x): % x, %d; want % x", c.l, s, e, c.s)
		}
	}
}

// P4.1, P4.3: every code point there is: its bytes, and back.
func TestTellsEachPoint(t *testing.T) {
	for n := 0; n <= 0x10ffff; n++ {
		if !isPoint(n) {
			refusedList(t, []int{n}, api.ErrPoint)
			refused(t, string(sized(n, 3)), api.ErrPoint)
			continue
		}
		s, e := Text([]int{n})
		if e != api.OK || s != string(inWords(n)) {
			t.Fatalf("Text(%x): % x, %d; want % x", n, s, e, inWords(n))
		}
		if l, e := Points(s); e != api.OK || len(l) != 1 || l[0] != n {
			t.Fatalf("Points(% x): %x, %d; want %x", s, l, e, n)
		}
	}
}

// P4.1, Points and Text: lists of all lengths, up to the longest one.
func TestTellsLists(t *testing.T) {
	for _, c := range lists() {
		want := allInWords(c)
		if s, e := Text(c); e != api.OK || s != want {
			t.Errorf("Text of %d code points: %d bytes, %d; want %d bytes", len(c), len(s), e, len(want))
		}
		if l, e := Points(want); e != api.OK || !slices.Equal(l, c) {
			t.Errorf("Points of %d bytes: %d code points, %d; want %d", len(want), len(l), e, len(c))
		}
	}
}

// asWords: Points answers just what the chapter says of a text.
func asWords(t *testing.T, s string) {
	want, refusal := pointsInWords(s)
	if l, e := Points(s); e != refusal || !slices.Equal(l, want) {
		t.Fatalf("Points(% x): %x, %d; want %x, %d", s, l, e, want, refusal)
	}
}

// P4.1, Points: all bytes, and all two of them, and all three of which the first begins three.
func TestPointsOfAllShort(t *testing.T) {
	for x := range 256 {
		asWords(t, string([]byte{byte(x)}))
		for y := range 256 {
			asWords(t, string([]byte{byte(x), byte(y)}))
			for z := range 256 {
				if x >= 0xe0 && x < 0xf0 {
					asWords(t, string([]byte{byte(x), byte(y), byte(z)}))
				}
			}
		}
	}
}

// P4.1, Points: bytes of the edges, up to five of them in all orders.
func TestPointsOfEdges(t *testing.T) {
	all := []byte{0, 0x7f, 0x80, 0x8f, 0x90, 0x9f, 0xa0, 0xbd, 0xbf, 0xc1, 0xc2, 0xe0, 0xed, 0xef, 0xf0, 0xf4, 0xf5, 0xff}
	var grow func(b []byte)
	grow = func(b []byte) {
		asWords(t, string(b))
		if len(b) == 4 {
			asWords(t, string(b)+"\xbd")
			asWords(t, string(b)+"\xef\xbf\xbd")
			return
		}
		for _, x := range all {
			grow(append(bytes.Clone(b), x))
		}
	}
	grow(nil)
}

// P4.1, Points: ErrPoint, and nothing beside it, wherever in a text what is no code point's bytes stands.
func TestPointsRefusesBroken(t *testing.T) {
	for _, s := range broken() {
		refused(t, s, api.ErrPoint)
		for _, n := range []int{0, 97, 0xe9, 0x20ac, 0xfffd, 0x1f600} {
			p := string(inWords(n))
			refused(t, p+s, api.ErrPoint)
			refused(t, s+p, api.ErrPoint)
			refused(t, p+s+p, api.ErrPoint)
		}
	}
}

// P4.1, Points: ErrMany, and nothing beside it, for more than MaxOps; it is code points that are counted, not bytes.
func TestPointsRefusesMany(t *testing.T) {
	for _, n := range []int{0, 97, 0x7f, 0x80, 0x7ff, 0x800, 0xfffd, 0xffff, 0x10000, 0x10ffff} {
		p := string(inWords(n))
		if l, e := Points(strings.Repeat(p, 1024)); e != api.OK || !slices.Equal(l, slices.Repeat([]int{n}, 1024)) {
			t.Errorf("Points of 1024 times %x: %d, %d", n, len(l), e)
		}
		for _, many := range []int{1025, 1026, 2047, 2048, 2049, 4096, 1 << 16, 1<<16 + 1} {
			refused(t, strings.Repeat(p, many), api.ErrMany)
		}
	}
	refused(t, allInWords(some(7, 1025)), api.ErrMany)
	refused(t, strings.Repeat("a", 1<<24), api.ErrMany)
}

// P4.1, Points: what is no code point is told ahead of how many there are, wherever it stands.
func TestPointsTellsBrokenFirst(t *testing.T) {
	for _, s := range broken() {
		for _, many := range []int{1023, 1024, 1025, 3000} {
			for _, p := range []string{"a", "\xef\xbf\xbd"} {
				refused(t, strings.Repeat(p, many)+s, api.ErrPoint)
				refused(t, s+strings.Repeat(p, many), api.ErrPoint)
				refused(t, strings.Repeat(p, many)+s+strings.Repeat(p, many), api.ErrPoint)
			}
		}
	}
	for _, many := range []int{1024, 1025, 2000, 1 << 20} {
		refused(t, strings.Repeat("\xff", many), api.ErrPoint)
		refused(t, strings.Repeat("\x80", many), api.ErrPoint)
		refused(t, strings.Repeat("\xed\xa0\x80", many), api.ErrPoint)
	}
}

// P4.1, Text: ErrPoint, and nothing beside it, wherever what is no code point stands.
func TestTextRefusesNone(t *testing.T) {
	for _, n := range none {
		refusedList(t, []int{n}, api.ErrPoint)
		refusedList(t, []int{n, 97}, api.ErrPoint)
		refusedList(t, []int{97, n}, api.ErrPoint)
		refusedList(t, []int{97, n, 98}, api.ErrPoint)
		refusedList(t, []int{n, n}, api.ErrPoint)
		refusedList(t, slices.Repeat([]int{n}, 1024), api.ErrPoint)
		for _, at := range []int{0, 1, 511, 512, 1022, 1023} {
			l := some(8, 1024)
			l[at] = n
			refusedList(t, l, api.ErrPoint)
		}
	}
	refusedList(t, []int{0xd83d, 0xde00}, api.ErrPoint) // two that elsewhere stand for 1f600
}

// P4.1, Text: ErrMany for more than MaxOps, ahead of what is no code point.
func TestTextRefusesMany(t *testing.T) {
	for _, many := range []int{1025, 1026, 2048, 1 << 16, 1<<16 + 1} {
		for _, n := range append(slices.Clone(edges), none...) {
			refusedList(t, slices.Repeat([]int{n}, many), api.ErrMany)
		}
		for _, at := range []int{0, 1, 1023, 1024, many - 1} {
			l := some(9, many)
			l[at] = 0xd800
			refusedList(t, l, api.ErrMany)
		}
	}
}

// P4.2: what is handed in stays as it was, what lies around it in its memory too.
func TestTextOnlyReads(t *testing.T) {
	in := append(lists(), slices.Repeat([]int{97}, 1025), []int{97, -1, 98}, []int{0xd800}, []int{1<<32 + 97})
	for _, l := range in {
		all := append(append([]int{1, 2, 3}, l...), 77, 78, 79)
		was := slices.Clone(all)
		Text(all[3 : 3+len(l)])
		if !slices.Equal(all, was) {
			t.Fatalf("Text of %d numbers turned them", len(l))
		}
	}
}

// P4.1, P4.2: what lies around the numbers, or around the bytes, tells nothing.
func TestStaysWithin(t *testing.T) {
	for _, c := range lists() {
		want := allInWords(c)
		all := append(append([]int{0xd800, -1}, c...), -1, 97, 98)
		if s, e := Text(all[2 : 2+len(c)]); e != api.OK || s != want {
			t.Errorf("Text of %d code points among others: %d bytes, %d", len(c), len(s), e)
		}
		text := "\xff\xe2" + want + "\xff\x80"
		if l, e := Points(text[2 : 2+len(want)]); e != api.OK || !slices.Equal(l, c) {
			t.Errorf("Points of %d bytes among others: %d, %d", len(want), len(l), e)
		}
	}
	for _, n := range edges {
		for many := 1; many < len(inWords(n)); many++ {
			refused(t, string(inWords(n))[:many], api.ErrPoint)
		}
	}
}

// P4.2: an answer shares no memory with what was handed in, nor with another answer.
func TestTellsNewMemory(t *testing.T) {
	for _, c := range lists() {
		in := slices.Clone(c)
		s, _ := Text(in)
		for i := range in {
			in[i] = 122
		}
		if want := allInWords(c); s != want {
			t.Fatalf("%d code points: their text was turned with them", len(c))
		}
		one, _ := Points(s)
		two, _ := Points(s)
		for i := range one {
			one[i] = -1
		}
		_ = append(one, 99)
		three, _ := Points(s)
		if !slices.Equal(two, c) || !slices.Equal(three, c) || s != allInWords(c) {
			t.Fatalf("%d code points: an answer was turned with another one", len(c))
		}
		for i := range one {
			if one[i] != -1 {
				t.Fatalf("%d code points: what one was turned to was turned back", len(c))
			}
		}
	}
}

// P4.1, P4.2: nothing is kept from call to call.
func TestKeepsNothing(t *testing.T) {
	texts := append([]string{"", "ab", "\u20ac", strings.Repeat("a", 1024), strings.Repeat("a", 1025)}, broken()[:5]...)
	numbers := [][]int{nil, {97}, {0x20ac, 98}, {-1}, slices.Repeat([]int{97}, 1024), slices.Repeat([]int{97}, 1025)}
	for _, one := range texts {
		for _, l := range numbers {
			for _, two := range texts {
				Points(one)
				before, _ := Text(l)
				asWords(t, two)
				if s, _ := Text(l); s != before {
					t.Fatalf("Text of %d numbers: % x, then % x", len(l), before, s)
				}
			}
		}
	}
}

// P4.3: a text's code points have that text, and code points' text has these.
func TestThereAndBack(t *testing.T) {
	for _, c := range lists() {
		s, e := Text(c)
		if e != api.OK {
			t.Fatalf("Text of %d code points: %d", len(c), e)
		}
		l, e := Points(s)
		if e != api.OK || !slices.Equal(l, c) {
			t.Fatalf("%d code points, there and back: %d, %d", len(c), len(l), e)
		}
		if again, e := Text(l); e != api.OK || again != s {
			t.Fatalf("a text of %d bytes, there and back: %d bytes, %d", len(s), len(again), e)
		}
	}
}

// P4.3: two texts one behind the other have their code points one behind the other.
func TestOneBehindTheOther(t *testing.T) {
	all := append(lists()[:60], some(10, 1), some(11, 500), some(12, 512), some(13, 524), some(14, 1000))
	for _, one := range all {
		for _, two := range all {
			both := append(slices.Clone(one), two...)
			first, _ := Text(one)
			second, _ := Text(two)
			if len(both) > 1024 {
				refused(t, first+second, api.ErrMany)
				refusedList(t, both, api.ErrMany)
				continue
			}
			if l, e := Points(first + second); e != api.OK || !slices.Equal(l, both) {
				t.Fatalf("Points of two texts of %d and %d code points: %d, %d", len(one), len(two), len(l), e)
			}
			if s, e := Text(both); e != api.OK || s != first+second {
				t.Fatalf("Text of %d and %d code points: %d bytes, %d", len(one), len(two), len(s), e)
			}
		}
	}
}

// P1, P2, P4.3: whatever text, cut in two anywhere.
func FuzzPoints(f *testing.F) {
	for _, s := range append(broken(), "", "ab", "\u20ac", "\ufffd", "\U0001f600", strings.Repeat("a", 1024), strings.Repeat("a", 1025)) {
		f.Add(s, len(s)/2)
	}
	f.Fuzz(func(t *testing.T, s string, at int) {
		asWords(t, s)
		l, e := Points(s)
		if (e == api.ErrPoint) == utf8.ValidString(s) {
			t.Fatalf("Points(% x): %d; the library has it otherwise", s, e)
		}
		if e != api.OK {
			return
		}
		if back, e := Text(l); e != api.OK || back != s {
			t.Fatalf("Points(% x): %x; their text: % x, %d", s, l, back, e)
		}
		cut := int(uint(at) % uint(len(s)+1))
		one, e := Points(s[:cut])
		two, g := Points(s[cut:])
		if e == api.OK && (g != api.OK || !slices.Equal(append(one, two...), l)) {
			t.Fatalf("% x, cut at %d: %x, %d and %x, %d; want %x", s, cut, one, e, two, g, l)
		}
	})
}

// P1, P2: whatever numbers.
func FuzzText(f *testing.F) {
	for _, n := range append(slices.Clone(edges), none...) {
		f.Add(n, 97, uint16(2))
		f.Add(97, n, uint16(1024))
		f.Add(97, n, uint16(1025))
	}
	f.Fuzz(func(t *testing.T, a, b int, many uint16) {
		l := make([]int, many)
		for i := range l {
			l[i] = a
			if i%3 == 1 {
				l[i] = b
			}
		}
		was := slices.Clone(l)
		s, e := Text(l)
		want, refusal := "", api.OK
		switch {
		case len(l) > 1024:
			refusal = api.ErrMany
		case slices.ContainsFunc(l, func(n int) bool { return !isPoint(n) }):
			refusal = api.ErrPoint
		default:
			want = allInWords(l)
		}
		if s != want || e != refusal || !slices.Equal(l, was) {
			t.Fatalf("Text of %d numbers, %x and %x: %d bytes, %d; want %d bytes, %d", len(l), a, b, len(s), e, len(want), refusal)
		}
	})
}
