package octet_test

import (
	"hash/crc32"
	"slices"
	"testing"

	"longshore/octet"
)

// Any number of parts may be handed in.
var _ func(...[]byte) uint32 = octet.Sum

// plainSum goes bit by bit, as the chapter says it.
func plainSum(b []byte) uint32 {
	register := uint32(0xffffffff)
	for _, octet := range b {
		register ^= uint32(octet)
		for range 8 {
			out := register & 1
			register >>= 1
			if out == 1 {
				register ^= 0xedb88320
			}
		}
	}
	return register ^ 0xffffffff
}

// sample is bytes that look like any, the same each time.
func sample(length int) []byte {
	b := make([]byte, length)
	n := uint32(length) + 1
	for i := range b {
		n = n*1664525 + 1013904223
		b[i] = byte(n >> 24)
	}
	return b
}

// P1.8
func TestSumOfEachByte(t *testing.T) {
	for first := range 256 {
		for second := range 256 {
			b := []byte{byte(first), byte(second)}
			if got, want := octet.Sum(b), plainSum(b); got != want {
				t.Fatalf("Sum(% x): %08x, want %08x", b, got, want)
			}
		}
		b := []byte{byte(first)}
		if got, want := octet.Sum(b), plainSum(b); got != want {
			t.Fatalf("Sum(% x): %08x, want %08x", b, got, want)
		}
	}
}

// P1.8
func TestSumOfAnyLength(t *testing.T) {
	for _, length := range []int{0, 1, 2, 3, 4, 5, 7, 8, 9, 15, 16, 17, 63, 64, 65, 1000, 1 << 16} {
		b := sample(length)
		want := plainSum(b)
		if got := octet.Sum(b); got != want || want != crc32.ChecksumIEEE(b) {
			t.Errorf("Sum of %d bytes: %08x, want %08x", length, got, want)
		}
	}
}

// P1.8: of no bytes it is 0.
func TestSumOfNothing(t *testing.T) {
	for i, parts := range [][][]byte{nil, {}, {nil}, {{}}, {nil, {}, nil}} {
		if got := octet.Sum(parts...); got != 0 {
			t.Errorf("Sum of no bytes, case %d: %08x, want 0", i, got)
		}
	}
}

// P1.8: how the bytes are cut into parts doesn't matter, their order does.
func TestSumOfParts(t *testing.T) {
	b := sample(40)
	want := plainSum(b)
	for i := range len(b) + 1 {
		for j := i; j <= len(b); j++ {
			if got := octet.Sum(b[:i], b[i:j], b[j:]); got != want {
				t.Fatalf("Sum cut at %d and %d: %08x, want %08x", i, j, got, want)
			}
			if got := octet.Sum(nil, b[:i], []byte{}, b[i:j], nil, b[j:], nil); got != want {
				t.Fatalf("Sum cut at %d and %d with empty parts: %08x, want %08x", i, j, got, want)
			}
		}
	}
	if got := octet.Sum(slices.Collect(slices.Chunk(b, 1))...); got != want {
		t.Errorf("Sum byte by byte: %08x, want %08x", got, want)
	}
	if got, want := octet.Sum(b[20:], b[:20]), plainSum(slices.Concat(b[20:], b[:20])); got != want {
		t.Errorf("Sum of the parts the other way round: %08x, want %08x", got, want)
	}
}

// bursts are ways in which 32 neighbouring bits can differ.
func bursts() []uint32 {
	all := []uint32{1<<32 - 1, 0xedb88320, 0x82f63b78, 0x04c11db7, 0x55555555, 0xaaaaaaaa}
	for i := range 32 {
		all = append(all, 1<<i, 1<<i|1, 1<<i-1|1, ^uint32(1<<i))
	}
	n := uint32(7)
	for range 2000 {
		n = n*1664525 + 1013904223
		all = append(all, n|1)
	}
	return all
}

// turned is b with the burst's bits turned from the place at on, bits counted in each byte from its lowest one.
func turned(b []byte, at int, burst uint32) []byte {
	other := slices.Clone(b)
	for i := range 32 {
		if place := at + i; burst>>i&1 == 1 {
			other[place/8] ^= 1 << (place % 8)
		}
	}
	return other
}

// P1.9
func TestSumsOfBurstsDiffer(t *testing.T) {
	for _, length := range []int{4, 5, 11} {
		for _, b := range [][]byte{make([]byte, length), sample(length)} {
			sum := octet.Sum(b)
			for at := range 8*length - 31 {
				for _, burst := range bursts() {
					if octet.Sum(turned(b, at, burst)) == sum {
						t.Fatalf("Sum(% x): the same with %08x turned at bit %d", b, burst, at)
					}
				}
			}
		}
	}
}

// P1.9: lists of at most two bytes differ within 32 places whatever they are.
func TestSumsOfShortListsDiffer(t *testing.T) {
	ones, twos := map[uint32]int{}, map[uint32]int{}
	for first := range 256 {
		ones[octet.Sum([]byte{byte(first)})]++
		for second := range 256 {
			twos[octet.Sum([]byte{byte(first), byte(second)})]++
		}
	}
	if len(ones) != 256 || len(twos) != 65536 {
		t.Errorf("%d sums of one byte, %d of two: want 256 and 65536", len(ones), len(twos))
	}
}
