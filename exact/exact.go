// Package exact is layer 1: exact and limited integer arithmetic: see shared/doc/01-exact.md.
package exact

import (
	"cmp"
	"math"
	"math/bits"
	"slices"

	"bourne/api"
)

// maxWeights is the greatest number of weights of a division.
const maxWeights = 64

// Scale returns a * num / den, rounded down, and the remainder; false if an argument or the quotient is out of range.
func Scale(a, num, den int) (int, int, bool) {
	if !isVolume(a) || !isVolume(num) || !isVolume(den) || den == 0 {
		return 0, 0, false
	}
	high, low := bits.Mul64(uint64(a), uint64(num))
	if high >= uint64(den) { // the quotient does not fit in 64 bits, and Div64 would panic
		return 0, 0, false
	}
	q, r := bits.Div64(high, low, uint64(den))
	if q > api.MaxVol {
		return 0, 0, false
	}
	return int(q), int(r), true
}

func isVolume(n int) bool { return 0 <= n && n <= api.MaxVol }

// Share divides total in proportion to the weights; the litres that rounding down leaves over go to the greatest remainders.
func Share(total int, weights []int) ([]int, bool) {
	whole, ok := wholeOf(weights)
	if !ok || total < 0 || total > whole {
		return nil, false
	}
	parts := make([]int, len(weights))
	if whole == 0 {
		return parts, true
	}
	rests := make([]int, len(weights))
	order := make([]int, len(weights))
	over := total
	for i, w := range weights {
		// Scale cannot fail here: w and total are at most whole, so the quotient is at most w.
		parts[i], rests[i], _ = Scale(total, w, whole)
		order[i] = i
		over -= parts[i]
	}
	slices.SortFunc(order, func(i, j int) int {
		return cmp.Or(cmp.Compare(rests[j], rests[i]), cmp.Compare(i, j))
	})
	for _, i := range order[:over] {
		parts[i]++
	}
	return parts, true
}

// wholeOf returns the sum of the weights of a division, and whether they are in range.
func wholeOf(weights []int) (int, bool) {
	if len(weights) > maxWeights {
		return 0, false
	}
	for _, w := range weights {
		if w < 0 {
			return 0, false
		}
	}
	whole, ok := Sum(weights)
	return whole, ok && whole <= api.MaxVol
}

// Sum returns the exact sum of l, and whether it is an int; partial sums need not be.
func Sum(l []int) (int, bool) {
	var high, low uint64 // the sum in 128 bits, in two's complement
	for _, n := range l {
		var carry uint64
		low, carry = bits.Add64(low, uint64(n), 0)
		high += uint64(n>>63) + carry
	}
	n := int(low)
	if high != uint64(n>>63) { // the upper half is more than the sign of the lower one
		return 0, false
	}
	return n, true
}

// Clamp returns n, or the limit that it exceeds; low goes first if the limits cross.
func Clamp(n, low, high int) int {
	if n < low {
		return low
	}
	if n > high {
		return high
	}
	return n
}

// Add returns a + b, or the limit of int that it exceeds.
func Add(a, b int) int {
	if b > 0 && a > math.MaxInt-b {
		return math.MaxInt
	}
	if b < 0 && a < math.MinInt-b {
		return math.MinInt
	}
	return a + b
}

// Sub returns a - b, or the limit of int that it exceeds. It is no Add of -b, because the least int has no opposite.
func Sub(a, b int) int {
	if b < 0 && a > math.MaxInt+b {
		return math.MaxInt
	}
	if b > 0 && a < math.MinInt+b {
		return math.MinInt
	}
	return a - b
}
