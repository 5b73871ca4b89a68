// Package octet is layer 1: see shared/doc/01-octet.md.
package octet

import (
	"unicode/utf8"

	"longshore/api"
)

const maxWidth = 8

// Put writes a number's lowest bytes, the highest first.
func Put(n uint64, width int) []byte {
	if !isWidth(width) {
		return nil
	}
	b := make([]byte, width)
	for i := width - 1; i >= 0; i-- {
		b[i] = byte(n)
		n >>= 8
	}
	return b
}

// Get reads such a number.
func Get(b []byte, at, width int) (uint64, api.Errno) {
	if !isWidth(width) || at < 0 || at > len(b) {
		return 0, api.ErrArg
	}
	// Not at+width > len(b): a difference of two places can't run over.
	if len(b)-at < width {
		return 0, api.ErrShort
	}
	n := uint64(0)
	for _, octet := range b[at : at+width] {
		n = n<<8 | uint64(octet)
	}
	return n, api.OK
}

func isWidth(width int) bool { return 1 <= width && width <= maxWidth }

// Utf8 is the place of the first byte that is no text's; -1: there is none.
func Utf8(s string) int {
	for at := 0; at < len(s); {
		r, size := utf8.DecodeRuneInString(s[at:])
		// The size tells a fault from U+FFFD itself, which is a character of three bytes.
		if r == utf8.RuneError && size == 1 {
			return at
		}
		at += size
	}
	return -1
}

// Ascii is the place of the first byte above 127; -1: there is none.
func Ascii(s string) int {
	for at := 0; at < len(s); at++ {
		if s[at] >= utf8.RuneSelf {
			return at
		}
	}
	return -1
}

// Add goes on from a serial number.
func Add(a, n int) int { return int(uint32(a) + uint32(n)) }

// Gap is how far a serial number lies behind another one.
func Gap(a, b int) int { return int(int32(uint32(b) - uint32(a))) }

// Before tells whether a serial number comes ahead of another one.
func Before(a, b int) bool { return Gap(a, b) > 0 }

// Sum is the check sum of the parts, one behind the other.
func Sum(parts ...[]byte) uint32 {
	// What half a byte makes of the register: the four shifts of the chapter at one go.
	halves := [16]uint32{
		0x00000000, 0x1db71064, 0x3b6e20c8, 0x26d930ac,
		0x76dc4190, 0x6b6b51f4, 0x4db26158, 0x5005713c,
		0xedb88320, 0xf00f9344, 0xd6d6a3e8, 0xcb61b38c,
		0x9b64c2b0, 0x86d3d2d4, 0xa00ae278, 0xbdbdf21c,
	}
	register := ^uint32(0)
	for _, part := range parts {
		for _, octet := range part {
			register ^= uint32(octet)
			register = register>>4 ^ halves[register&15]
			register = register>>4 ^ halves[register&15]
		}
	}
	return ^register
}
