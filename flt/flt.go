// Package flt is layer 1: see shared/doc/01-flt.md.
package flt

import "math"

// NaN is what every result that is no number is.
const NaN = 0x7FF8000000000000

// Classes of numbers.
const (
	Zero     = 0
	Small    = 1 // less than the least normal one
	Normal   = 2
	Infinite = 3
	None     = 4 // not a number
)

// What the bits of a number mean.
const (
	signBit      = 1 << 63
	fractionBits = 52
	fractionMask = 1<<fractionBits - 1
	exponentMask = 1<<11 - 1
)

// Add, Sub, Mul, Div: to the nearest, to even ones in the middle.
func Add(a, b uint64) uint64 { return bitsOf(valueOf(a) + valueOf(b)) }

func Sub(a, b uint64) uint64 { return bitsOf(valueOf(a) - valueOf(b)) }

// The conversion forbids Go to fuse the product with a sum of the caller's, which would round only once.
func Mul(a, b uint64) uint64 { return bitsOf(float64(valueOf(a) * valueOf(b))) }

func Div(a, b uint64) uint64 { return bitsOf(valueOf(a) / valueOf(b)) }

// Sqrt: the root.
func Sqrt(a uint64) uint64 { return bitsOf(math.Sqrt(valueOf(a))) }

// Neg, Abs: the sign alone, of NaN too.
func Neg(a uint64) uint64 { return a ^ signBit }

func Abs(a uint64) uint64 { return a &^ signBit }

// Min, Max: NaN, if one is; -0 is below 0.
func Min(a, b uint64) uint64 {
	if isNone(a) || isNone(b) {
		return NaN
	}
	if below(a, b) {
		return a
	}
	return b
}

func Max(a, b uint64) uint64 {
	if isNone(a) || isNone(b) {
		return NaN
	}
	if below(a, b) {
		return b
	}
	return a
}

// Less, Equal: false, if one is NaN.
func Less(a, b uint64) bool { return valueOf(a) < valueOf(b) }

func Equal(a, b uint64) bool { return valueOf(a) == valueOf(b) }

// FromInt: the nearest one.
func FromInt(n int64) uint64 { return bitsOf(float64(n)) }

// ToInt: towards 0; the greatest or the least number beyond; 0 of NaN.
func ToInt(a uint64) int64 {
	if isNone(a) {
		return 0
	}
	// Go leaves open what a conversion beyond int64 yields, so the bounds come first.
	x := valueOf(a)
	if x >= 1<<63 {
		return math.MaxInt64
	}
	if x < -1<<63 {
		return math.MinInt64
	}
	return int64(x)
}

// Class: which class of numbers.
func Class(a uint64) int {
	exponent, fraction := exponentOf(a), a&fractionMask
	switch {
	case exponent == exponentMask && fraction != 0:
		return None
	case exponent == exponentMask:
		return Infinite
	case exponent != 0:
		return Normal
	case fraction != 0:
		return Small
	}
	return Zero
}

func exponentOf(a uint64) uint64 { return a >> fractionBits & exponentMask }

func isNone(a uint64) bool { return Class(a) == None }

// below orders numbers as Less does, but for -0, which is below 0.
func below(a, b uint64) bool {
	if Equal(a, b) {
		return a > b
	}
	return Less(a, b)
}

func valueOf(a uint64) float64 { return math.Float64frombits(a) }

// bitsOf has one NaN only, because the machine's own one depends on its arguments.
func bitsOf(x float64) uint64 {
	if x != x {
		return NaN
	}
	return math.Float64bits(x)
}
