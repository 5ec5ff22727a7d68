// Package reckon reckons with numbers that are checked: no sum, product or part goes round unseen.
package reckon

import "math/bits"

// Max is the greatest count.
const Max = 1<<63 - 1

// Wide is a number of up to 128 bits: its lowest 64 bits stand in word 0.
type Wide [2]uint64

// Add is a and b together; 0, false if one of them, or the sum, is no count.
func Add(a, b int) (int, bool) {
	if !counts(a, b) {
		return 0, false
	}
	// Two counts need 64 bits at most, so the sum of words can't go round.
	return narrow(uint64(a) + uint64(b))
}

// Sub is a less b; 0, false if one of them is no count, or b is above a.
func Sub(a, b int) (int, bool) {
	if !counts(a, b) || b > a {
		return 0, false
	}
	return a - b, true
}

// Mul is a times b; 0, false if one of them, or the product, is no count.
func Mul(a, b int) (int, bool) {
	if !counts(a, b) {
		return 0, false
	}
	w := product(a, b)
	if w[1] != 0 {
		return 0, false
	}
	return narrow(w[0])
}

// Div is how often b goes into a; 0, false if a is no count or b is below 1.
func Div(a, b int) (int, bool) {
	if a < 0 || b < 1 {
		return 0, false
	}
	return a / b, true
}

// Up is the least count that times b isn't below a; 0, false if a is no count or b is below 1.
func Up(a, b int) (int, bool) {
	q, ok := Div(a, b)
	if ok && a%b != 0 {
		q++
	}
	return q, ok
}

// Part is num of den parts of n, rounded down; 0, false if an argument is no count, den is 0, or the part is no count.
func Part(n, num, den int) (int, bool) {
	q, _, ok := share(n, num, den)
	return q, ok
}

// PartUp is num of den parts of n, rounded up; 0, false if an argument is no count, den is 0, or the part is no count.
func PartUp(n, num, den int) (int, bool) {
	q, rest, ok := share(n, num, den)
	if rest {
		return Add(q, 1)
	}
	return q, ok
}

// Order is -1, 0, 1, as a times b is less than, as much as, more than c times d; 0, false if one of them is no count.
func Order(a, b, c, d int) (int, bool) {
	if !counts(a, b, c, d) {
		return 0, false
	}
	return compare(product(a, b), product(c, d)), true
}

// Log is the greatest e for which 2 to the power e isn't above n; 0, false if n is below 1.
func Log(n int) (int, bool) {
	if n < 1 {
		return 0, false
	}
	return bits.Len64(uint64(n)) - 1, true
}

// Pow is 2 to the power e; 0, false if that is no count.
func Pow(e int) (int, bool) {
	if e < 0 || e > 62 {
		return 0, false
	}
	return 1 << e, true
}

// Plus is w and a times b more; zero, false if a or b is no count, or the sum has more than 128 bits.
func Plus(w Wide, a, b int) (Wide, bool) {
	if !counts(a, b) {
		return Wide{}, false
	}
	p := product(a, b)
	low, carry := bits.Add64(w[0], p[0], 0)
	high, carry := bits.Add64(w[1], p[1], carry)
	if carry != 0 {
		return Wide{}, false
	}
	return Wide{low, high}, true
}

// Over is how often n goes into w, and whether there is a rest; 0, false, false if n is below 1, or that often is no count.
func Over(w Wide, n int) (q int, rest, ok bool) {
	// With a high word of n or more the quotient has more than 64 bits, at which Div64 would panic.
	if n < 1 || w[1] >= uint64(n) {
		return 0, false, false
	}
	often, left := bits.Div64(w[1], w[0], uint64(n))
	q, ok = narrow(often)
	return q, ok && left != 0, ok
}

func counts(l ...int) bool {
	for _, n := range l {
		if n < 0 {
			return false
		}
	}
	return true
}

// narrow is n as a count; 0, false if it is above Max.
func narrow(n uint64) (int, bool) {
	if n > Max {
		return 0, false
	}
	return int(n), true
}

// product is a times b, which are counts.
func product(a, b int) Wide {
	high, low := bits.Mul64(uint64(a), uint64(b))
	return Wide{low, high}
}

// share is how often den goes into n times num, and whether there is a rest.
func share(n, num, den int) (q int, rest, ok bool) {
	if !counts(n, num) {
		return 0, false, false
	}
	return Over(product(n, num), den)
}

// compare is -1, 0, 1, as v is less than, as much as, more than w.
func compare(v, w Wide) int {
	for _, i := range [2]int{1, 0} {
		if v[i] < w[i] {
			return -1
		}
		if v[i] > w[i] {
			return 1
		}
	}
	return 0
}
