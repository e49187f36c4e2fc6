// Package quad is layer 1: numbers as bytes, see shared/doc/01-quad.md.
package quad

import (
	"iter"
	"math/bits"

	"emender/api"
)

const (
	groupBits = 7
	moreBit   = 1 << groupBits // set in every byte of a number but its last
	maxBytes  = 10             // 64 bits in groups of seven
	tenthMost = 1              // nine groups hold 63 bits, so one is left for the tenth
)

// Put answers b and the bytes of all numbers behind it.
func Put(b []byte, l ...uint64) []byte {
	size := len(b)
	for _, n := range l {
		size += Len(n)
	}
	// Appending to b itself would write into memory that the caller shares.
	out := make([]byte, len(b), size)
	copy(out, b)
	for _, n := range l {
		for c := range bytesOf(n) {
			out = append(out, c)
		}
	}
	return out
}

// Get answers the number that begins at at, and the place behind it.
func Get(b []byte, at int) (uint64, int, api.Errno) {
	if at < 0 || at > len(b) {
		return 0, 0, api.ErrArg
	}
	var n uint64
	for place, c := range bytesFrom(b, at) {
		group := place - at
		if !goesOn(group, c) {
			return 0, place, api.ErrForm
		}
		n |= uint64(c&^moreBit) << (groupBits * group)
		if c&moreBit == 0 {
			return n, place + 1, api.OK
		}
	}
	return 0, len(b), api.ErrShort
}

// All answers all numbers of b, and the place where reading ended.
func All(b []byte) ([]uint64, int, api.Errno) {
	var l []uint64
	at := 0
	for at < len(b) {
		n, next, e := Get(b, at)
		if e != api.OK {
			return nil, next, e
		}
		l = append(l, n)
		at = next
	}
	return l, at, api.OK
}

// Len answers how many bytes n has.
func Len(n uint64) int {
	// 0 has no bits, but it is written in one byte all the same.
	return max(1, (bits.Len64(n)+groupBits-1)/groupBits)
}

// bytesOf goes over the bytes of n, the lowest group first.
func bytesOf(n uint64) iter.Seq[byte] {
	return func(yield func(byte) bool) {
		rest := n
		for rest >= moreBit {
			if !yield(byte(rest) | moreBit) {
				return
			}
			rest >>= groupBits
		}
		yield(byte(rest))
	}
}

// bytesFrom goes over the places from at on, with the byte at each.
func bytesFrom(b []byte, at int) iter.Seq2[int, byte] {
	return func(yield func(int, byte) bool) {
		for place := at; place < len(b); place++ {
			if !yield(place, b[place]) {
				return
			}
		}
	}
}

// goesOn tells whether a number can have c as its byte of that group (from 0).
func goesOn(group int, c byte) bool {
	if group == maxBytes-1 && c > tenthMost {
		return false
	}
	// A last byte 0 behind others would write a number longer than it need be.
	return group == 0 || c != 0
}
