package sieve

import (
	"cmp"
	"math"
)

func isFinite(f float64) bool { return !math.IsInf(f, 0) && !math.IsNaN(f) }

// turnedSign is a float with the other sign, a zero too.
func turnedSign(f float64) float64 { return math.Copysign(f, -math.Copysign(1, f)) }

// against is how an integer stands to a float, exactly: neither is rounded to be like the other.
func against(n int64, f float64) int {
	const beyond = 1 << 63
	switch {
	case f >= beyond:
		return -1
	case f < -beyond:
		return 1
	}
	whole := math.Trunc(f)
	if order := cmp.Compare(n, int64(whole)); order != 0 {
		return order
	}
	return cmp.Compare(whole, f)
}

// reckoned is the sum, difference, product or quotient of two sayings.
func reckoned(kind int, a, b saying) saying {
	x, are := a.(integer)
	y, both := b.(integer)
	if are && both {
		if n, is := exactly(kind, int64(x), int64(y)); is {
			return integer(n)
		}
	}
	f, are := asFloat(a)
	g, both := asFloat(b)
	if !are || !both {
		return unknown{}
	}
	switch kind {
	case Plus:
		f += g
	case Minus:
		f -= g
	case Times:
		f *= g
	case Over:
		// Over 0 nothing is finite, so that is unknown, too.
		f /= g
	}
	return finite(f, unknown{})
}

// asFloat is the float nearest to a number; false: it is no number.
func asFloat(a saying) (float64, bool) {
	switch x := a.(type) {
	case integer:
		return float64(x), true
	case float:
		return float64(x), true
	}
	return 0, false
}

// exactly is what comes out of two integers; false: it is no integer of 64 bits.
func exactly(kind int, x, y int64) (int64, bool) {
	switch kind {
	case Plus:
		n := x + y
		return n, (n > x) == (y > 0)
	case Minus:
		n := x - y
		return n, (n < x) == (y > 0)
	case Times:
		return product(x, y)
	}
	if y == 0 || x%y != 0 || isTurnOfLeast(x, y) {
		return 0, false
	}
	return x / y, true
}

func product(x, y int64) (int64, bool) {
	if x == 0 || y == 0 {
		return 0, true
	}
	if isTurnOfLeast(x, y) || isTurnOfLeast(y, x) {
		return 0, false
	}
	n := x * y
	return n, n/y == x
}

// isTurnOfLeast tells whether x, times or over y, is the least integer with the other sign, which is none.
func isTurnOfLeast(x, y int64) bool { return x == math.MinInt64 && y == -1 }

// negative is a number with the other sign.
func negative(a saying) saying {
	switch x := a.(type) {
	case integer:
		return reckoned(Minus, integer(0), x)
	case float:
		return float(turnedSign(float64(x)))
	}
	return unknown{}
}
