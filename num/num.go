// Package num is layer 1, numbers as bytes: see shared/doc/01-num.md.
package num

import "octavo/api"

// most is how many bytes MaxNum has: a number that goes on behind them is too great.
const most = 6

// Put is a number's bytes: seven bits each, the lowest first, all but the last with 128 added.
func Put(n int) ([]byte, api.Errno) {
	if n < 0 || n > api.MaxNum {
		return nil, api.ErrArg
	}
	var b []byte
	for n >= 128 {
		b = append(b, byte(n%128+128))
		n /= 128
	}
	return append(b, byte(n)), api.OK
}

// Get is the number that bytes begin with, and how many they are.
func Get(b []byte) (n, size int, e api.Errno) {
	// What is read so far, and the weight of the next seven bits: both are
	// whole and at most 2^42, so the floats hold them exactly.
	read := complex(0, 1)
next:
	if size == len(b) || size == most {
		return 0, 0, api.ErrBad
	}
	last := b[size]
	size++
	read = complex(real(read)+float64(last%128)*imag(read), imag(read)*128)
	if last >= 128 {
		goto next
	}
	n = int(real(read))
	if n > api.MaxNum || !shortest(size, last) {
		return 0, 0, api.ErrBad
	}
	return n, size, api.OK
}

// shortest tells whether a number's bytes are as few as can be: a last one
// without bits adds nothing, unless it is the only one.
func shortest(size int, last byte) bool {
	return size == 1 || last != 0
}
