package stamp

import (
	"math"
	"slices"
	"testing"

	"octavo/api"
)

// mayBe is what a stamp that may be is, by the chapter's words.
func mayBe(a api.Id) bool {
	return 1 <= a.T && a.T <= 1<<30 && a.R <= 7
}

// lessInWords is what Less has to answer.
func lessInWords(a, b api.Id) bool {
	return a.T < b.T || a.T == b.T && a.R < b.R
}

// nextInWords is what Next has to answer.
func nextInWords(r uint8, l []api.Id) (api.Id, api.Errno) {
	bad := func(a api.Id) bool { return !mayBe(a) && a != api.Id{} }
	last := func(a api.Id) bool { return a.T == 1<<30 }
	switch {
	case len(l) > 1024:
		return api.Id{}, api.ErrMany
	case r > 7 || slices.ContainsFunc(l, bad):
		return api.Id{}, api.ErrBad
	case slices.ContainsFunc(l, last):
		return api.Id{}, api.ErrTime
	}
	return api.Id{T: greatest(l) + 1, R: r}, api.OK
}

// greatest is the greatest time of stamps, 0 if there are none.
func greatest(l []api.Id) uint32 {
	var n uint32
	for _, a := range l {
		n = max(n, a.T)
	}
	return n
}

// times is those of the edges: of what may be, and of what floats of too few bits would take for each other.
var times = []uint32{
	0, 1, 2, 3, 4, 5, 7, 8, 9, 127, 128, 255, 256, 257, 65535, 65536,
	1<<24 - 1, 1 << 24, 1<<24 + 1, 1<<24 + 2, 1<<29 - 1, 1 << 29, 1<<29 + 1,
	1<<30 - 2, 1<<30 - 1, 1 << 30, 1<<30 + 1, 1<<30 + 2, 1<<31 - 1, 1 << 31, 1<<31 + 1, math.MaxUint32 - 1, math.MaxUint32,
}

var replicas = []uint8{0, 1, 2, 6, 7, 8, 9, 127, 128, 254, 255}

// all is the stamps of the edges.
func all() []api.Id {
	var l []api.Id
	for _, t := range times {
		for _, r := range replicas {
			l = append(l, api.Id{T: t, R: r})
		}
	}
	return l
}

// good is those of the edges that may be.
func good() []api.Id {
	return slices.DeleteFunc(all(), func(a api.Id) bool { return !mayBe(a) })
}

// bad is stamps that neither may be nor are the zero one.
func bad() []api.Id {
	return slices.DeleteFunc(all(), func(a api.Id) bool { return mayBe(a) || a == api.Id{} })
}

// some is so many stamps that may be, none with the last time.
func some(seed, many int) []api.Id {
	l := make([]api.Id, many)
	for i := range l {
		seed = (seed*1103515245 + 12345) % (1 << 31)
		l[i] = api.Id{T: 1 + uint32(seed>>8%(1<<(1+seed>>5%23))), R: uint8(seed >> 9 % 8)}
	}
	return l
}

// lists is stamps of many lengths and kinds above which there is a next one.
func lists() [][]api.Id {
	l := [][]api.Id{
		nil, {}, {{}}, {{}, {}}, slices.Repeat([]api.Id{{}}, 1024),
		{{T: 3, R: 1}}, {{}, {T: 3, R: 1}}, {{T: 3, R: 1}, {}}, {{}, {T: 3, R: 1}, {}},
		{{T: 3, R: 1}, {T: 5}}, {{T: 5}, {T: 3, R: 1}}, {{T: 5, R: 7}, {T: 5, R: 1}, {T: 4, R: 7}},
	}
	for _, a := range good() {
		if a.T < 1<<30 {
			l = append(l, []api.Id{a}, []api.Id{a, a}, []api.Id{{}, a}, []api.Id{a, {}}, []api.Id{{T: 1}, a, {T: 1, R: 7}}, slices.Repeat([]api.Id{a}, 1024))
		}
	}
	for many := range 60 {
		l = append(l, some(many, many))
	}
	return append(l, some(1, 255), some(2, 256), some(3, 1022), some(4, 1023), some(5, 1024))
}

func asWords(t *testing.T, r uint8, l []api.Id) {
	t.Helper()
	want, refusal := nextInWords(r, l)
	if a, e := Next(r, l); a != want || e != refusal {
		t.Errorf("Next(%d) above %d stamps, %v: %v, %d; want %v, %d", r, len(l), l[:min(len(l), 5)], a, e, want, refusal)
	}
}

func refused(t *testing.T, r uint8, l []api.Id, want api.Errno) {
	t.Helper()
	if a, e := Next(r, l); a != (api.Id{}) || e != want {
		t.Errorf("Next(%d) above %d stamps, %v: %v, %d; want none, %d", r, len(l), l[:min(len(l), 5)], a, e, want)
	}
}

// P5.1, Check: the edges that the chapter names, one by one.
func TestCheckTellsKnown(t *testing.T) {
	for _, c := range []struct {
		a    api.Id
		want api.Errno
	}{
		{api.Id{T: 0, R: 0}, api.ErrBad},
		{api.Id{T: 0, R: 7}, api.ErrBad},
		{api.Id{T: 1, R: 0}, api.OK},
		{api.Id{T: 1, R: 7}, api.OK},
		{api.Id{T: 1, R: 8}, api.ErrBad},
		{api.Id{T: 1, R: 255}, api.ErrBad},
		{api.Id{T: 1 << 30, R: 0}, api.OK},
		{api.Id{T: 1 << 30, R: 7}, api.OK},
		{api.Id{T: 1 << 30, R: 8}, api.ErrBad},
		{api.Id{T: 1<<30 + 1, R: 0}, api.ErrBad},
		{api.Id{T: 1<<30 + 1, R: 7}, api.ErrBad},
		{api.Id{T: math.MaxUint32, R: 255}, api.ErrBad},
	} {
		if e := Check(c.a); e != c.want {
			t.Errorf("Check(%v): %d; want %d", c.a, e, c.want)
		}
	}
}

// P5.1, Check: every replica, and every bit of a time.
func TestCheckTellsEach(t *testing.T) {
	in := slices.Clone(times)
	for bit := range 32 {
		in = append(in, 1<<bit, 1<<bit-1, 1<<bit+1)
	}
	for _, n := range in {
		for r := range 256 {
			a := api.Id{T: n, R: uint8(r)}
			want := api.ErrBad
			if mayBe(a) {
				want = api.OK
			}
			if e := Check(a); e != want {
				t.Fatalf("Check(%v): %d; want %d", a, e, want)
			}
		}
	}
}

// P5.1, Less: stamps that are known, both ways.
func TestLessTellsKnown(t *testing.T) {
	for _, c := range []struct {
		a, b         api.Id
		there, other bool
	}{
		{api.Id{T: 3, R: 1}, api.Id{T: 4, R: 0}, true, false},
		{api.Id{T: 3, R: 1}, api.Id{T: 3, R: 2}, true, false},
		{api.Id{T: 3, R: 1}, api.Id{T: 3, R: 1}, false, false},
		{api.Id{T: 3, R: 7}, api.Id{T: 4, R: 0}, true, false},
		{api.Id{T: 3, R: 255}, api.Id{T: 4, R: 0}, true, false},
		{api.Id{}, api.Id{}, false, false},
		{api.Id{}, api.Id{T: 1}, true, false},
		{api.Id{}, api.Id{R: 1}, true, false},
		{api.Id{R: 255}, api.Id{T: 1}, true, false},
		{api.Id{T: 1<<24 + 1, R: 0}, api.Id{T: 1 << 24, R: 7}, false, true},
		{api.Id{T: 1<<30 - 1, R: 7}, api.Id{T: 1 << 30}, true, false},
		{api.Id{T: 1 << 30, R: 7}, api.Id{T: 1<<30 + 1}, true, false},
		{api.Id{T: 1<<31 - 1}, api.Id{T: 1 << 31}, true, false},
		{api.Id{T: 1}, api.Id{T: math.MaxUint32}, true, false},
		{api.Id{T: math.MaxUint32 - 1, R: 255}, api.Id{T: math.MaxUint32}, true, false},
		{api.Id{T: math.MaxUint32, R: 254}, api.Id{T: math.MaxUint32, R: 255}, true, false},
	} {
		if Less(c.a, c.b) != c.there || Less(c.b, c.a) != c.other {
			t.Errorf("Less of %v, %v: %t, and %t; want %t, and %t", c.a, c.b, !c.there, !c.other, c.there, c.other)
		}
	}
}

// P5.1, P5.3: two of any ones, both ways: of unlike ones just one is less.
func TestLessOfTwo(t *testing.T) {
	for _, a := range all() {
		for _, b := range all() {
			one, two := Less(a, b), Less(b, a)
			if one != lessInWords(a, b) || two != lessInWords(b, a) {
				t.Fatalf("Less of %v, %v: %t, and %t the other way", a, b, one, two)
			}
			if a == b && (one || two) || a != b && one == two {
				t.Fatalf("of %v and %v not just one is less: %t, %t", a, b, one, two)
			}
		}
	}
}

// P5.1, Less: every replica at one time, and at two times beside each other.
func TestLessOfReplicas(t *testing.T) {
	for _, n := range []uint32{0, 1, 1 << 24, 1 << 30, math.MaxUint32 - 1} {
		for r := range 256 {
			for s := range 256 {
				a, b := api.Id{T: n, R: uint8(r)}, api.Id{T: n, R: uint8(s)}
				if Less(a, b) != (r < s) {
					t.Fatalf("Less(%v, %v): %t", a, b, r >= s)
				}
				if b.T++; !Less(a, b) || Less(b, a) {
					t.Fatalf("%v is not less than %v", a, b)
				}
			}
		}
	}
}

// P5.3: of three, what is less than one that is less is less.
func TestLessOfThree(t *testing.T) {
	in := all()
	for _, a := range in {
		for _, b := range in {
			if !Less(a, b) {
				continue
			}
			for _, c := range in {
				if Less(b, c) && !Less(a, c) {
					t.Fatalf("%v is less than %v, which is less than %v, and it is not less", a, b, c)
				}
			}
		}
	}
}

// P5.1: the zero stamp is less than all that may be.
func TestZeroIsLess(t *testing.T) {
	for _, a := range append(good(), some(6, 1000)...) {
		if !Less(api.Id{}, a) || Less(a, api.Id{}) {
			t.Errorf("the zero stamp is not less than %v", a)
		}
	}
}

// V2, P5.3: whatever order stamps come in, they are put in the same one.
func TestOneOrder(t *testing.T) {
	by := func(a, b api.Id) int {
		switch {
		case Less(a, b):
			return -1
		case Less(b, a):
			return 1
		}
		return 0
	}
	want := all() // times rise, and replicas within each
	for _, step := range []int{1, 2, 5, 7, 13, 101, 361, 362} {
		var l []api.Id
		for i := range want {
			l = append(l, want[i*step%len(want)])
		}
		if slices.SortFunc(l, by); !slices.Equal(l, want) {
			t.Fatalf("stamps that came by steps of %d are in another order", step)
		}
	}
}

// P5.2: stamps whose next one is known.
func TestNextTellsKnown(t *testing.T) {
	for _, c := range []struct {
		r    uint8
		l    []api.Id
		want api.Id
	}{
		{2, nil, api.Id{T: 1, R: 2}},
		{2, []api.Id{}, api.Id{T: 1, R: 2}},
		{0, []api.Id{{}}, api.Id{T: 1}},
		{7, []api.Id{{}, {}}, api.Id{T: 1, R: 7}},
		{2, []api.Id{{T: 3, R: 1}, {T: 5}}, api.Id{T: 6, R: 2}},
		{2, []api.Id{{T: 5}, {T: 3, R: 1}}, api.Id{T: 6, R: 2}},
		{2, []api.Id{{}, {T: 5}, {}}, api.Id{T: 6, R: 2}},
		{2, []api.Id{{T: 5, R: 2}}, api.Id{T: 6, R: 2}},
		{0, []api.Id{{T: 1, R: 7}}, api.Id{T: 2}},
		{7, []api.Id{{T: 1}}, api.Id{T: 2, R: 7}},
		{1, []api.Id{{T: 1 << 24, R: 1}}, api.Id{T: 1<<24 + 1, R: 1}},
		{1, []api.Id{{T: 1<<24 + 1, R: 1}}, api.Id{T: 1<<24 + 2, R: 1}},
		{3, []api.Id{{T: 1<<30 - 2}}, api.Id{T: 1<<30 - 1, R: 3}},
		{3, []api.Id{{T: 1<<30 - 1}}, api.Id{T: 1 << 30, R: 3}},
		{3, []api.Id{{T: 1<<30 - 1, R: 7}, {}, {T: 1, R: 1}}, api.Id{T: 1 << 30, R: 3}},
	} {
		if a, e := Next(c.r, c.l); a != c.want || e != api.OK {
			t.Errorf("Next(%d, %v): %v, %d; want %v", c.r, c.l, a, e, c.want)
		}
	}
}

// P5.2: stamps that have no next one, and why.
func TestNextRefusesKnown(t *testing.T) {
	for _, c := range []struct {
		r    uint8
		l    []api.Id
		want api.Errno
	}{
		{2, []api.Id{{T: 1 << 30}}, api.ErrTime},
		{7, []api.Id{{}, {T: 1 << 30, R: 7}, {T: 1}}, api.ErrTime},
		{8, nil, api.ErrBad},
		{255, nil, api.ErrBad},
		{8, []api.Id{{T: 1}}, api.ErrBad},
		{0, []api.Id{{R: 1}}, api.ErrBad},
		{0, []api.Id{{T: 1, R: 8}}, api.ErrBad},
		{0, []api.Id{{T: 1, R: 255}}, api.ErrBad},
		{0, []api.Id{{T: 1<<30 + 1}}, api.ErrBad},
		{0, []api.Id{{T: math.MaxUint32}}, api.ErrBad},
		{0, []api.Id{{T: 1 << 30, R: 8}}, api.ErrBad},
		{8, []api.Id{{T: 1 << 30}}, api.ErrBad},
	} {
		refused(t, c.r, c.l, c.want)
	}
}

// P5.2: lists of all lengths, above them every replica's next one.
func TestNextOfLists(t *testing.T) {
	for _, l := range lists() {
		for r := range 256 {
			asWords(t, uint8(r), l)
		}
	}
}

// P5.2: above one stamp of any, and above two.
func TestNextOfOneAndTwo(t *testing.T) {
	for _, a := range all() {
		for r := range 256 {
			asWords(t, uint8(r), []api.Id{a})
		}
		for _, b := range all() {
			asWords(t, 7, []api.Id{a, b})
		}
	}
}

// P5.2: the greatest time counts wherever its stamp stands, whoever made it.
func TestNextFindsGreatest(t *testing.T) {
	for _, many := range []int{1, 2, 3, 1023, 1024} {
		for at := range many {
			for _, top := range []api.Id{{T: 1 << 29, R: uint8(at % 8)}, {T: 1<<30 - 1, R: uint8(at % 8)}} {
				l := some(at, many)
				l[at] = top
				if a, e := Next(5, l); a != (api.Id{T: top.T + 1, R: 5}) || e != api.OK {
					t.Fatalf("Next above %d stamps, %v at %d: %v, %d", many, top, at, a, e)
				}
			}
		}
	}
}

// P5.2: ErrMany for more than MaxOps, ahead of all that is wrong beside, and not for MaxOps.
func TestNextRefusesMany(t *testing.T) {
	for _, a := range all() {
		asWords(t, 3, slices.Repeat([]api.Id{a}, 1023))
		asWords(t, 3, slices.Repeat([]api.Id{a}, 1024))
		for _, many := range []int{1025, 1026, 2048} {
			for _, r := range []uint8{0, 7, 8, 255} {
				refused(t, r, slices.Repeat([]api.Id{a}, many), api.ErrMany)
			}
		}
	}
	for _, many := range []int{1 << 16, 1<<16 + 1, 1 << 20} {
		refused(t, 0, make([]api.Id, many), api.ErrMany)
	}
	for _, at := range []int{0, 1023, 1024} {
		for _, a := range bad() {
			l := some(at, 1025)
			l[at] = a
			refused(t, 8, l, api.ErrMany)
		}
	}
}

// P5.2: ErrBad wherever what may not be stands, and for a replica that may not be.
func TestNextRefusesBad(t *testing.T) {
	for _, a := range bad() {
		for _, at := range []int{0, 1, 511, 1022, 1023} {
			l := some(at, 1024)
			l[at] = a
			refused(t, 0, l, api.ErrBad)
		}
		refused(t, 7, []api.Id{{}, a}, api.ErrBad)
		refused(t, 7, []api.Id{a, {}}, api.ErrBad)
	}
	for r := 8; r < 256; r++ {
		for _, l := range lists() {
			refused(t, uint8(r), l, api.ErrBad)
		}
	}
}

// P5.2: ErrTime wherever the last time stands, but ErrBad is told first, ahead of it or behind.
func TestNextRefusesLastTime(t *testing.T) {
	for _, many := range []int{1, 2, 3, 1023, 1024} {
		for _, at := range []int{0, many / 2, many - 1} {
			for r := range 8 {
				l := some(at, many)
				l[at] = api.Id{T: 1 << 30, R: uint8(r)}
				refused(t, uint8(7-r), l, api.ErrTime)
				refused(t, uint8(8+r), l, api.ErrBad)
			}
		}
	}
	for _, a := range bad() {
		last := api.Id{T: 1 << 30, R: 3}
		for _, l := range [][]api.Id{{last, a}, {a, last}, {last, {}, a}, {a, {}, last}, {last, a, last}} {
			refused(t, 0, l, api.ErrBad)
		}
	}
}

// P5.3: the next one may be, is greater than all that it was made above, and no lesser time is greater than all of theirs.
func TestNextIsAbove(t *testing.T) {
	for _, l := range lists() {
		for r := range 8 {
			a, e := Next(uint8(r), l)
			if e != api.OK || Check(a) != api.OK || a.R != uint8(r) {
				t.Fatalf("Next(%d) above %d stamps: %v, %d", r, len(l), a, e)
			}
			for _, b := range l {
				if !Less(b, a) || Less(a, b) {
					t.Fatalf("Next(%d) above %d stamps: %v is not greater than %v", r, len(l), a, b)
				}
			}
			if a.T-1 > greatest(l) {
				t.Fatalf("Next(%d) above %d stamps: %v, and a lesser time would do", r, len(l), a)
			}
		}
	}
}

// P5.2, P5.3: each next one above those ahead of it, by turns, up to the last time.
func TestNextBehindNext(t *testing.T) {
	for _, from := range []uint32{0, 1<<24 - 20, 1<<30 - 40} {
		var l []api.Id
		if from > 0 {
			l = []api.Id{{T: from}}
		}
		for i := range 40 {
			r := uint8(i * 5 % 8)
			a, e := Next(r, l)
			if want := (api.Id{T: from + uint32(i) + 1, R: r}); a != want || e != api.OK {
				t.Fatalf("the next one but %d behind the time %d: %v, %d; want %v", i, from, a, e, want)
			}
			l = append(l, a)
		}
		asWords(t, 1, l)
	}
}

// P2: what is handed in is only read, what lies around it in its memory too, and tells nothing.
func TestNextOnlyReads(t *testing.T) {
	in := append(lists(), slices.Repeat([]api.Id{{T: 1}}, 1025), []api.Id{{T: 1}, {R: 1}}, []api.Id{{T: 1 << 30}})
	for _, l := range in {
		around := append(append([]api.Id{{T: 1 << 30}, {T: 9, R: 9}}, l...), api.Id{T: 9, R: 9}, api.Id{T: 1 << 30})
		was := slices.Clone(around)
		within := around[2 : 2+len(l)]
		for _, r := range []uint8{0, 7, 8} {
			asWords(t, r, within)
		}
		if !slices.Equal(around, was) {
			t.Fatalf("Next of %d stamps turned them", len(l))
		}
	}
}

// P1, P2: nothing is kept from call to call.
func TestKeepsNothing(t *testing.T) {
	in := [][]api.Id{nil, {{}}, {{T: 5, R: 1}}, {{T: 1<<30 - 1}}, {{T: 1 << 30}}, {{R: 1}}, make([]api.Id, 1024), make([]api.Id, 1025)}
	for _, one := range in {
		for _, two := range in {
			for _, r := range []uint8{0, 7, 8} {
				Next(r, one)
				asWords(t, 2, two)
				if a := (api.Id{T: 3, R: 1}); Check(a) != api.OK || !Less(a, api.Id{T: 3, R: 2}) || Less(a, a) {
					t.Fatalf("behind Next(%d, %v) other answers of Check, Less", r, one[:min(len(one), 5)])
				}
			}
		}
	}
}

// P1, P5.1, P5.3: whatever three stamps.
func FuzzLess(f *testing.F) {
	in := all()
	for i, a := range in {
		b, c := in[i*7%len(in)], in[i*31%len(in)]
		f.Add(a.T, a.R, b.T, b.R, c.T, c.R)
	}
	f.Fuzz(func(t *testing.T, aT uint32, aR uint8, bT uint32, bR uint8, cT uint32, cR uint8) {
		a, b, c := api.Id{T: aT, R: aR}, api.Id{T: bT, R: bR}, api.Id{T: cT, R: cR}
		if (Check(a) == api.OK) != mayBe(a) {
			t.Fatalf("Check(%v): %d", a, Check(a))
		}
		if Less(a, b) != lessInWords(a, b) || Less(b, a) != lessInWords(b, a) || Less(a, a) {
			t.Fatalf("%v, %v: %t, %t, and %t of one", a, b, Less(a, b), Less(b, a), Less(a, a))
		}
		if Less(a, b) && Less(b, c) && !Less(a, c) {
			t.Fatalf("%v is less than %v, which is less than %v, and it is not less", a, b, c)
		}
	})
}

// P1, P5.2, P5.3: whatever stamps: many of three, by turns.
func FuzzNext(f *testing.F) {
	for i, a := range all() {
		f.Add(uint8(i%9), a.T, a.R, uint32(i), uint8(i%8), uint32(0), uint8(0), uint16(i%5))
	}
	f.Add(uint8(0), uint32(1), uint8(0), uint32(2), uint8(1), uint32(1<<30-1), uint8(7), uint16(1024))
	f.Add(uint8(0), uint32(1<<30), uint8(0), uint32(1), uint8(8), uint32(0), uint8(0), uint16(1025))
	f.Fuzz(func(t *testing.T, r uint8, aT uint32, aR uint8, bT uint32, bR uint8, cT uint32, cR uint8, many uint16) {
		three := []api.Id{{T: aT, R: aR}, {T: bT, R: bR}, {T: cT, R: cR}}
		l := make([]api.Id, many)
		for i := range l {
			l[i] = three[i%3]
		}
		was := slices.Clone(l)
		asWords(t, r, l)
		if a, e := Next(r, l); e == api.OK && slices.ContainsFunc(l, func(b api.Id) bool { return !Less(b, a) }) {
			t.Fatalf("Next(%d) above %d of %v: %v is not greater than all", r, many, three, a)
		}
		if !slices.Equal(l, was) {
			t.Fatalf("Next(%d) above %d of %v turned them", r, many, three)
		}
	})
}
