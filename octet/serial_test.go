package octet_test

import (
	"math"
	"math/big"
	"testing"

	"longshore/octet"
)

// serials are ints around the ring's ends, its middle, its multiples either way, and the ends of int.
func serials() []int {
	var all []int
	for _, middle := range []int{0, 1 << 31, 1 << 32, 3 << 31, 1 << 33, 1 << 62, -1 << 31, -1 << 32, -3 << 31, -1 << 33, -1 << 62, 123456789, -987654321012} {
		for off := -2; off <= 2; off++ {
			all = append(all, middle+off)
		}
	}
	return append(all, math.MinInt, math.MinInt+1, math.MinInt+1<<31, math.MaxInt, math.MaxInt-1, math.MaxInt-1<<31)
}

func round(n *big.Int) int {
	ring := big.NewInt(1 << 32)
	return int(new(big.Int).Mod(n, ring).Int64())
}

func exact(n int) *big.Int { return big.NewInt(int64(n)) }

// P1.5
func TestAdd(t *testing.T) {
	for _, a := range serials() {
		for _, n := range serials() {
			want := round(new(big.Int).Add(exact(a), exact(n)))
			if got := octet.Add(a, n); got != want {
				t.Errorf("Add(%d, %d): %d, want %d", a, n, got, want)
			}
		}
	}
}

// P1.6
func TestGap(t *testing.T) {
	for _, a := range serials() {
		for _, b := range serials() {
			want := round(new(big.Int).Sub(exact(b), exact(a)))
			if want >= 1<<31 {
				want -= 1 << 32
			}
			if got := octet.Gap(a, b); got != want {
				t.Errorf("Gap(%d, %d): %d, want %d", a, b, got, want)
			}
			if octet.Add(a, octet.Gap(a, b)) != octet.Add(b, 0) {
				t.Errorf("Add(%d, Gap(%d, %d)) is not %d", a, a, b, b)
			}
		}
	}
}

// P1.7
func TestBefore(t *testing.T) {
	for _, a := range serials() {
		for _, b := range serials() {
			ahead := round(new(big.Int).Sub(exact(b), exact(a)))
			want := ahead > 0 && ahead < 1<<31
			if got := octet.Before(a, b); got != want {
				t.Errorf("Before(%d, %d): %t, want %t", a, b, got, want)
			}
		}
	}
}

// P1.7
func TestNeitherIsBeforeHalfTheRingApart(t *testing.T) {
	for _, a := range serials() {
		b := octet.Add(a, 1<<31)
		if octet.Before(a, b) || octet.Before(b, a) {
			t.Errorf("%d and %d are 2^31 apart: neither is before the other", a, b)
		}
	}
}
