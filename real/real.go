// Package real is layer 1: see shared/doc/01-real.md.
package real

import (
	"math"
	"slices"
)

const (
	nanBits = 0x7ff8000000000001 // of the one NaN that stands for all
	topBit  = 1 << 63            // the sign's
)

// Canon: a number as the one of its kind.
func Canon(x float64) float64 {
	if math.IsNaN(x) {
		return math.Float64frombits(nanBits)
	}
	if x == 0 {
		return 0 // -0 equals 0 too, so its sign goes here
	}
	return x
}

// Order: which of two numbers comes first.
func Order(a, b float64) int {
	aNone, bNone := math.IsNaN(a), math.IsNaN(b)
	switch {
	case aNone && bNone:
		return 0
	case aNone:
		return 1
	case bNone:
		return -1
	case a < b:
		return -1
	case a > b:
		return 1
	}
	return 0
}

// Same: are two numbers the same?
func Same(a, b float64) bool { return Order(a, b) == 0 }

// Clamp: a number held between two others.
func Clamp(x, lo, hi float64) float64 {
	if Order(x, lo) < 0 {
		return Canon(lo)
	}
	if Order(x, hi) > 0 {
		return Canon(hi)
	}
	return Canon(x)
}

// Mid: the number in the middle of some, in order.
func Mid(l []float64) float64 {
	if len(l) == 0 {
		return Canon(math.NaN())
	}
	sorted := slices.Clone(l) // the caller's list stays as it is
	slices.SortFunc(sorted, Order)
	return Canon(sorted[(len(sorted)-1)/2])
}

// Code: a number as one that rises as it does.
func Code(x float64) uint64 {
	bits := math.Float64bits(Canon(x))
	if bits&topBit != 0 {
		return ^bits // of negative numbers the bits fall as the numbers rise
	}
	return bits ^ topBit
}

// Decode: the number of a code.
func Decode(c uint64) (float64, bool) {
	bits := ^c
	if c&topBit != 0 {
		bits = c ^ topBit
	}
	x := math.Float64frombits(bits)
	if Code(x) != c { // -0, or a NaN that is not Canon's
		return 0, false
	}
	return x, true
}
