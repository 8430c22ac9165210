// Package wide is layer 1: numbers of 256 bits. See shared/doc/01-wide.md.
package wide

import (
	"cmp"
	"iter"
	"math/bits"
	"slices"

	"narrows/api"
)

const wordBits = 64

// up goes through the words of a with their places, the lowest first, as carries go.
func up(a api.Wide) iter.Seq2[int, uint64] {
	return func(yield func(int, uint64) bool) {
		for i, x := range a {
			if !yield(i, x) {
				return
			}
		}
	}
}

// down goes through the words of a with their places, the highest first, as what decides comes.
func down(a api.Wide) iter.Seq2[int, uint64] {
	return func(yield func(int, uint64) bool) {
		for i := len(a) - 1; i >= 0; i-- {
			if !yield(i, a[i]) {
				return
			}
		}
	}
}

// Of is n as a wide number.
func Of(n uint64) api.Wide {
	return api.Wide{n}
}

// Cmp is -1 if a is less than b, 1 if it is greater, 0 if they are one number.
func Cmp(a api.Wide, b api.Wide) int {
	for i, x := range down(a) {
		if c := cmp.Compare(x, b[i]); c != 0 {
			return c
		}
	}
	return 0
}

// Add is the sum and true; zero and false, if it is not below 2^256.
func Add(a api.Wide, b api.Wide) (api.Wide, bool) {
	var sum api.Wide
	var carry uint64
	for i, x := range up(a) {
		sum[i], carry = bits.Add64(x, b[i], carry)
	}
	if carry != 0 {
		return api.Wide{}, false
	}
	return sum, true
}

// Sub is a less b and true; zero and false, if b is greater.
func Sub(a api.Wide, b api.Wide) (api.Wide, bool) {
	var rest api.Wide
	var borrow uint64
	for i, x := range up(a) {
		rest[i], borrow = bits.Sub64(x, b[i], borrow)
	}
	if borrow != 0 {
		return api.Wide{}, false
	}
	return rest, true
}

// Mul is the product and true; zero and false, if it is not below 2^256.
func Mul(a api.Wide, n uint64) (api.Wide, bool) {
	var product api.Wide
	var over uint64
	for i, x := range up(a) {
		high, low := bits.Mul64(x, n)
		var carry uint64
		product[i], carry = bits.Add64(low, over, 0)
		// The high word of a product is at most 2^64 - 2: the carry has room.
		over = high + carry
	}
	if over != 0 {
		return api.Wide{}, false
	}
	return product, true
}

// Div is how often n is in a, what is left, and true; zeros and false, if n is 0.
func Div(a api.Wide, n uint64) (api.Wide, uint64, bool) {
	if n == 0 {
		return api.Wide{}, 0, false
	}
	var often api.Wide
	var left uint64
	for i, x := range down(a) {
		// What is left is below n, so that Div64 never panics.
		often[i], left = bits.Div64(left, x, n)
	}
	return often, left, true
}

// Bits is how many bits a has, without zeros ahead; 0 of 0.
func Bits(a api.Wide) int {
	for i, x := range down(a) {
		if x != 0 {
			return i*wordBits + bits.Len64(x)
		}
	}
	return 0
}

// Small is the lowest word of a, and whether it is all of it.
func Small(a api.Wide) (uint64, bool) {
	return a[0], Bits(a) <= wordBits
}

// Sum is all numbers of l, added, and true; zero and false, if that is not below 2^256.
func Sum(l ...api.Wide) (api.Wide, bool) {
	var all api.Wide
	for a := range slices.Values(l) {
		next, ok := Add(all, a)
		// No number is below 0: a part that is too great makes the whole too great.
		if !ok {
			return api.Wide{}, false
		}
		all = next
	}
	return all, true
}
