package octet_test

import (
	"strings"
	"testing"

	"longshore/octet"
)

type span struct{ from, to byte }

// characters is the chapter's table: the bytes of each character, row by row.
var characters = [][]span{
	{{0x00, 0x7f}},
	{{0xc2, 0xdf}, {0x80, 0xbf}},
	{{0xe0, 0xe0}, {0xa0, 0xbf}, {0x80, 0xbf}},
	{{0xe1, 0xec}, {0x80, 0xbf}, {0x80, 0xbf}},
	{{0xed, 0xed}, {0x80, 0x9f}, {0x80, 0xbf}},
	{{0xee, 0xef}, {0x80, 0xbf}, {0x80, 0xbf}},
	{{0xf0, 0xf0}, {0x90, 0xbf}, {0x80, 0xbf}, {0x80, 0xbf}},
	{{0xf1, 0xf3}, {0x80, 0xbf}, {0x80, 0xbf}, {0x80, 0xbf}},
	{{0xf4, 0xf4}, {0x80, 0x8f}, {0x80, 0xbf}, {0x80, 0xbf}},
}

// character is how many bytes the character at the head of s has; 0: there is none.
func character(s string) int {
rows:
	for _, row := range characters {
		if len(s) < len(row) {
			continue
		}
		for i, span := range row {
			if s[i] < span.from || s[i] > span.to {
				continue rows
			}
		}
		return len(row)
	}
	return 0
}

func plainUtf8(s string) int {
	for at := 0; at < len(s); {
		size := character(s[at:])
		if size == 0 {
			return at
		}
		at += size
	}
	return -1
}

func wantUtf8(t *testing.T, s string, want int) {
	t.Helper()
	if got := octet.Utf8(s); got != want {
		t.Errorf("Utf8(%q): %d, want %d", s, got, want)
	}
}

// bits writes a code point in so many bytes, whether that is its shortest form or not.
func bits(point, size int) string {
	if size == 1 {
		return string([]byte{byte(point)})
	}
	heads := []byte{0, 0, 0xc0, 0xe0, 0xf0, 0xf8}
	b := make([]byte, size)
	for i := size - 1; i > 0; i-- {
		b[i] = 0x80 | byte(point&0x3f)
		point >>= 6
	}
	b[0] = heads[size] | byte(point)
	return string(b)
}

func shortest(point int) int {
	switch {
	case point < 0x80:
		return 1
	case point < 0x800:
		return 2
	case point < 0x10000:
		return 3
	}
	return 4
}

// P1.3: each code point in its shortest form is a text, but surrogates and what lies above 10FFFF.
func TestUtf8OfEachCodePoint(t *testing.T) {
	for point := 0; point < 0x200000; point++ {
		want := -1
		if point >= 0xd800 && point <= 0xdfff || point > 0x10ffff {
			want = 0
		}
		if s := bits(point, shortest(point)); octet.Utf8(s) != want {
			t.Fatalf("Utf8(%q): %d, want %d", s, octet.Utf8(s), want)
		}
	}
}

// P1.3
func TestUtf8OfLongerForms(t *testing.T) {
	for _, point := range []int{0, 1, 'a', 0x7f, 0x80, 0xff, 0x7ff, 0x800, 0xfff, 0x1000, 0xd7ff, 0xe000, 0xfffd, 0xffff, 0x10000, 0x3ffff, 0x40000, 0xfffff, 0x100000, 0x10ffff} {
		for size := shortest(point) + 1; size <= 5; size++ {
			wantUtf8(t, bits(point, size), 0)
			wantUtf8(t, "é"+bits(point, size)+"a", 2)
		}
	}
}

// P1.3: a character that is cut off counts from its first byte on.
func TestUtf8OfWhatIsCutOff(t *testing.T) {
	for _, whole := range []string{"é", "\u0800", "€", "\ud7ff", "\ufffd", "\U00010000", "\U00040000", "\U0010ffff"} {
		for _, ahead := range []string{"", "a", "é€\U0001f600"} {
			wantUtf8(t, ahead+whole, -1)
			for n := 1; n < len(whole); n++ {
				wantUtf8(t, ahead+whole[:n], len(ahead))
				wantUtf8(t, ahead+whole[:n]+"a", len(ahead))
				wantUtf8(t, ahead+whole[:n]+whole, len(ahead))
			}
			wantUtf8(t, ahead+whole+"\x80", len(ahead+whole))
		}
	}
}

// P1.3: all beginnings of two bytes, with what decides behind them, against the chapter's table.
func TestUtf8AgainstTheTable(t *testing.T) {
	wantUtf8(t, "", -1)
	tails := []string{"", "a", "\x7f", "\x80", "\xbf", "\xc0", "\xc2", "\xff", "a\x80", "\x80\x7f", "\x80\x80", "\xbf\xbf", "\xbf\xc0", "\x80\x80\x80", "\xc3\xa9"}
	for first := range 256 {
		for second := range 256 {
			for _, tail := range tails {
				s := string([]byte{byte(first), byte(second)}) + tail
				if got, want := octet.Utf8(s), plainUtf8(s); got != want {
					t.Fatalf("Utf8(%q): %d, want %d", s, got, want)
				}
			}
		}
		wantUtf8(t, string([]byte{byte(first)}), plainUtf8(string([]byte{byte(first)})))
	}
}

// P1.3: the character FFFD is one like all others, also ahead of a fault.
func TestUtf8OfTheReplacement(t *testing.T) {
	wantUtf8(t, "\ufffd", -1)
	wantUtf8(t, "a\ufffd\ufffdb", -1)
	wantUtf8(t, "\ufffd\xef\xbf", 3)
}

// P1.3, P1.4
func TestTextsThatAreLong(t *testing.T) {
	long := strings.Repeat("a€", 1<<16)
	wantUtf8(t, long, -1)
	wantUtf8(t, long+"\xe2\x82", len(long))
	plain := strings.Repeat("\x00\x7f", 1<<16)
	wantAscii(t, plain, -1)
	wantAscii(t, plain+"\x80", len(plain))
}

// P1.4
func TestAscii(t *testing.T) {
	wantAscii(t, "", -1)
	for octet := range 256 {
		for _, ahead := range []string{"", "a", "\x00\x7f"} {
			want := -1
			if octet > 0x7f {
				want = len(ahead)
			}
			wantAscii(t, ahead+string([]byte{byte(octet)})+"z", want)
			wantAscii(t, ahead+string([]byte{byte(octet)}), want)
		}
	}
	wantAscii(t, "ab\xff\x80\xc3", 2)
}

func wantAscii(t *testing.T, s string, want int) {
	t.Helper()
	if got := octet.Ascii(s); got != want {
		t.Errorf("Ascii(%q): %d, want %d", s, got, want)
	}
}
