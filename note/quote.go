package note

import (
	"strconv"
	"strings"
	"unicode/utf8"
)

// Between the two lie the control characters above 7F.
const (
	lastPlainByte   = 0x7e
	firstPlainAbove = 0xa0
)

func isPlain(r rune) bool {
	return ' ' <= r && r <= lastPlainByte || r >= firstPlainAbove
}

// escape writes bytes one by one, by their digits.
func escape(word *strings.Builder, s string) {
	for at := range len(s) {
		word.WriteString(`\x` + hexOf(s[at:at+1]))
	}
}

const hexDigits = "0123456789abcdef"

// hexOf writes each byte by two digits.
func hexOf(s string) string {
	digits := make([]byte, 0, 2*len(s))
	for at := range len(s) {
		digits = append(digits, hexDigits[s[at]>>4], hexDigits[s[at]&15])
	}
	return string(digits)
}

// bytesOf reads what hexOf writes; nil: it writes no such thing.
func bytesOf(digits string) []byte {
	if len(digits)%2 != 0 {
		return nil
	}
	b := make([]byte, 0, len(digits)/2)
	for at := 0; at < len(digits); at += 2 {
		high, low := strings.IndexByte(hexDigits, digits[at]), strings.IndexByte(hexDigits, digits[at+1])
		if high < 0 || low < 0 {
			return nil
		}
		b = append(b, byte(high<<4|low))
	}
	return b
}

// readWord reads the word in quotes with which s begins: what it says, and how long it is; 0: s begins with none.
func readWord(s string) (said string, length int) {
	if !strings.HasPrefix(s, `"`) {
		return "", 0
	}
	var b strings.Builder
	for at := 1; at < len(s); {
		if s[at] == '"' {
			return b.String(), at + 1
		}
		piece, size := readItem(s[at:])
		if size == 0 {
			return "", 0
		}
		b.WriteString(piece)
		at += size
	}
	return "", 0
}

// readItem reads the item with which s begins, as readWord does a word.
func readItem(s string) (said string, size int) {
	if s[0] == '\\' {
		return readEscape(s)
	}
	r, size := utf8.DecodeRuneInString(s)
	if r < ' ' || r == utf8.RuneError && size == 1 {
		return "", 0
	}
	return s[:size], size
}

func readEscape(s string) (said string, size int) {
	const hexAt, hexEnd = 2, 4
	switch {
	case strings.HasPrefix(s, `\"`), strings.HasPrefix(s, `\\`):
		return s[1:2], 2
	case strings.HasPrefix(s, `\n`):
		return "\n", 2
	case strings.HasPrefix(s, `\x`) && len(s) >= hexEnd:
		n, err := strconv.ParseUint(s[hexAt:hexEnd], 16, 8)
		if err == nil {
			return string([]byte{byte(n)}), hexEnd
		}
	}
	return "", 0
}
