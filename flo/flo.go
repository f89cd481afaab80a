// Package flo: see DOC.md, chapter 1.
package flo

import "math"

const (
	sign = 1 << 63
	nan  = 0x7ff8000000000000
)

// Canon is the one form of a float: floats that count as the same have the same bits.
func Canon(f uint64) uint64 {
	x := math.Float64frombits(f)
	switch {
	case math.IsNaN(x):
		return nan
	case x == 0:
		return 0
	default:
		return f
	}
}

// Order is a float's place among all floats, as a number without a sign.
func Order(f uint64) uint64 {
	c := Canon(f)
	switch {
	case c&sign != 0:
		// Below nought the bits rise as the numbers fall.
		return ^c
	default:
		return c | sign
	}
}

// Back is the float of a place; false, if no float has that place.
func Back(o uint64) (uint64, bool) {
	f := unplace(o)
	switch {
	case Canon(f) != f:
		return 0, false
	default:
		return f, true
	}
}

// unplace turns the bits of a place back, whether or not a float has that place.
func unplace(o uint64) uint64 {
	switch {
	case o&sign != 0:
		return o &^ sign
	default:
		return ^o
	}
}

// Cmp holds two floats against each other by their places, so that NaNs have one too.
func Cmp(a, b uint64) int {
	x, y := Order(a), Order(b)
	switch {
	case x < y:
		return -1
	case x > y:
		return 1
	default:
		return 0
	}
}

// Sum adds two floats.
func Sum(a, b uint64) uint64 {
	x, y := math.Float64frombits(a), math.Float64frombits(b)
	// Which NaN an addition makes hangs on the machine and on the order of the two: Canon takes that away.
	return Canon(math.Float64bits(x + y))
}

// Of is the float nearest to a number.
func Of(n int64) uint64 {
	return math.Float64bits(float64(n))
}

// Int is the whole number that a float is; false, if it is none, or none of int64.
func Int(f uint64) (int64, bool) {
	x := math.Float64frombits(f)
	switch {
	case math.IsNaN(x):
		return 0, false
	case x < -1<<63, x >= 1<<63:
		// What a conversion from beyond int64 answers is the machine's own: it must not be asked.
		return 0, false
	case x != math.Trunc(x):
		return 0, false
	default:
		return int64(x), true
	}
}
