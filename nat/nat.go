// Package nat is layer 1, naturals: limbs of 64 bits, the lowest first.
package nat

import (
	"cmp"
	"iter"
	"math/bits"
	"slices"
)

// Norm is a without zeros at the end.
func Norm(a []uint64) []uint64 {
	return slices.Clone(trim(a))
}

// Cmp is -1, 0, 1: a is less than b, the same, greater.
func Cmp(a []uint64, b []uint64) int {
	a, b = trim(a), trim(b)
	if len(a) != len(b) {
		return cmp.Compare(len(a), len(b))
	}
	for i, x := range downward(a) {
		if x != b[i] {
			return cmp.Compare(x, b[i])
		}
	}
	return 0
}

// Add is the sum of a and b.
func Add(a []uint64, b []uint64) []uint64 {
	a, b = trim(a), trim(b)
	if len(a) < len(b) {
		a, b = b, a
	}
	// One limb more than the longer one has: the last carry's.
	sum := make([]uint64, len(a)+1)
	carry := uint64(0)
	for i, x := range upward(a) {
		sum[i], carry = bits.Add64(x, limb(b, i), carry)
	}
	sum[len(a)] = carry
	return trim(sum)
}

// Sub is how far a is from b: the greater less the other.
func Sub(a []uint64, b []uint64) []uint64 {
	a, b = trim(a), trim(b)
	if Cmp(a, b) < 0 {
		a, b = b, a
	}
	// Nothing is borrowed from beyond the end, for a is not less than b.
	diff := make([]uint64, len(a))
	borrow := uint64(0)
	for i, x := range upward(a) {
		diff[i], borrow = bits.Sub64(x, limb(b, i), borrow)
	}
	return trim(diff)
}

// Mul is the product of a and b.
func Mul(a []uint64, b []uint64) []uint64 {
	a, b = trim(a), trim(b)
	if len(a) == 0 || len(b) == 0 {
		return nil
	}
	product := make([]uint64, len(a)+len(b))
	for i, x := range upward(a) {
		// The limb above the row is still 0: no row ahead has come so far.
		product[i+len(b)] = addRow(product[i:i+len(b)], b, x)
	}
	return trim(product)
}

// Bits is how many bits a has; 0 has none.
func Bits(a []uint64) int {
	for i, x := range downward(a) {
		if x != 0 {
			return 64*i + bits.Len64(x)
		}
	}
	return 0
}

// Even tells whether a is even.
func Even(a []uint64) bool {
	return limb(a, 0)&1 == 0
}

// upward goes through the limbs and their places, the lowest first: the way
// that carries take.
func upward(a []uint64) iter.Seq2[int, uint64] {
	return func(yield func(int, uint64) bool) {
		for i := 0; i < len(a); i++ {
			if !yield(i, a[i]) {
				return
			}
		}
	}
}

// downward goes through the limbs and their places, the highest first: the
// highest that is of matter settles how great a natural is.
func downward(a []uint64) iter.Seq2[int, uint64] {
	return func(yield func(int, uint64) bool) {
		for i := len(a) - 1; i >= 0; i-- {
			if !yield(i, a[i]) {
				return
			}
		}
	}
}

// trim is the part of a without zeros at the end. It shares a's memory: of an
// argument it is only read, and only an answer's own new memory is told.
func trim(a []uint64) []uint64 {
	for i, x := range downward(a) {
		if x != 0 {
			return a[:i+1]
		}
	}
	return nil
}

// limb is a's limb at place i; past the end all of them are 0.
func limb(a []uint64, i int) uint64 {
	if i < len(a) {
		return a[i]
	}
	return 0
}

// addRow adds b times x to row, which is as long as b, and answers the carry.
func addRow(row []uint64, b []uint64, x uint64) uint64 {
	carry := uint64(0)
	for i, y := range upward(b) {
		// x times y and two limbs more stay below 2^128: high never wraps.
		high, low := bits.Mul64(x, y)
		low, over := bits.Add64(low, row[i], 0)
		high += over
		row[i], over = bits.Add64(low, carry, 0)
		carry = high + over
	}
	return carry
}
