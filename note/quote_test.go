package note_test

import (
	"fmt"
	"math/rand"
	"strings"
	"testing"
	"unicode/utf8"

	"longshore/note"
	"longshore/octet"
)

// P4.1: each byte.
func TestQuoteOfEachByte(t *testing.T) {
	for b := range 256 {
		s := string([]byte{byte(b)})
		want := s
		switch {
		case b == 0x22:
			want = "\\\""
		case b == 0x5c:
			want = "\\\\"
		case b == 0x0a:
			want = "\\n"
		case b < 0x20 || b > 0x7e:
			want = fmt.Sprintf("\\x%02x", b)
		}
		wantQuote(t, s, `"`+want+`"`)
		wantQuote(t, "a"+s+"a", `"a`+want+`a"`)
	}
}

// P4.1: each two bytes, and more bytes around the ends of the characters' forms.
func TestQuoteOfFewBytes(t *testing.T) {
	for a := range 256 {
		for b := range 256 {
			s := string([]byte{byte(a), byte(b)})
			wantQuote(t, s, refQuote(s))
		}
	}
	ends := []byte("\x00\x41\x7f\x80\x8f\x90\x9f\xa0\xbf\xc0\xc2\xff")
	for _, first := range []byte("\xc1\xc2\xdf\xe0\xe1\xec\xed\xee\xef\xf0\xf1\xf3\xf4\xf5\xf8") {
		for _, b := range ends {
			for _, c := range ends {
				for _, d := range ends {
					s := string([]byte{first, b, c, d})
					wantQuote(t, s, refQuote(s))
				}
			}
		}
	}
}

// P4.1, P4.2: each code point, as itself.
func TestQuoteOfEachCharacter(t *testing.T) {
	for r := rune(0); r <= utf8.MaxRune; r++ {
		if !utf8.ValidRune(r) {
			continue
		}
		s := string(r)
		if r >= 0xa0 {
			wantQuote(t, s, `"`+s+`"`)
		} else if r > 0x7e {
			wantQuote(t, s, fmt.Sprintf(`"\x%s"`, strings.ReplaceAll(fmt.Sprintf("% x", s), " ", `\x`)))
		}
		if r >= 0x20 && r != '"' && r != '\\' {
			wantUnquote(t, `"`+s+`"`, s, true)
		} else {
			wantUnquote(t, `"`+s+`"`, "", false)
		}
	}
}

// P4.1: what the chapter names.
func TestQuoteAtTheEnds(t *testing.T) {
	for s, want := range map[string]string{
		"":                          ``,
		"~\x7f\u0080":               `~\x7f\xc2\x80`,
		"\u009f\u00a0":              `\xc2\x9f` + "\u00a0",
		"\U0010ffff":                "\U0010ffff",
		"\ufffd":                    "\ufffd", // which stands for faults elsewhere
		"\ufffd\xef\xbf":            "\ufffd" + `\xef\xbf`,
		"\xef\ufffd":                `\xef` + "\ufffd",
		"\xc3":                      `\xc3`, // cut
		"\xe2\x82":                  `\xe2\x82`,
		"\xe2\x82\u20ac":            `\xe2\x82` + "\u20ac",
		"\xf0\x9f\x98":              `\xf0\x9f\x98`,
		"\xf0\x9f\x98a":             `\xf0\x9f\x98a`,
		"\xf0\x9f\x98\n":            `\xf0\x9f\x98\n`,
		"\xc1\xbf\xc0\x80":          `\xc1\xbf\xc0\x80`, // longer forms
		"\xe0\x9f\xbf":              `\xe0\x9f\xbf`,
		"\xf0\x8f\xbf\xbf":          `\xf0\x8f\xbf\xbf`,
		"\xed\xa0\x80\xed\xbf\xbf":  `\xed\xa0\x80\xed\xbf\xbf`, // surrogates
		"\xf4\x90\x80\x80\xf5":      `\xf4\x90\x80\x80\xf5`,     // beyond the greatest one
		"\x80\u00e9\xbf":            `\x80` + "\u00e9" + `\xbf`,
		`\x41\n\"`:                  `\\x41\\n\\\"`,
		"'`\t\r":                    "'`" + `\x09\x0d`,
		strings.Repeat("\\", 1<<16): strings.Repeat(`\\`, 1<<16),
	} {
		wantQuote(t, s, `"`+want+`"`)
	}
}

// P4.2: what stands behind a backslash.
func TestUnquoteOfItems(t *testing.T) {
	for b := range 256 {
		s := string([]byte{byte(b)})
		said, is := map[string]string{`"`: `"`, `\`: `\`, "n": "\n"}[s]
		wantUnquote(t, `"\`+s+`"`, said, is)
		wantUnquote(t, `"\`+s, "", false)
	}
	digits := "0123456789abcdefABCDEF"
	for a := range 256 {
		for b := range 256 {
			s := string([]byte{byte(a), byte(b)})
			said, is := "", false
			if strings.IndexByte(digits, s[0]) >= 0 && strings.IndexByte(digits, s[1]) >= 0 {
				said, is = string(bigNumber(s, 16).FillBytes(make([]byte, 1))), true
			}
			wantUnquote(t, `"\x`+s+`"`, said, is)
			wantUnquote(t, `"a\x`+s+`b"`, strings.Repeat("a"+said+"b", map[bool]int{true: 1}[is]), is)
		}
	}
}

// P4.2: what is no word in quotes.
func TestUnquoteOfOthers(t *testing.T) {
	for _, s := range []string{
		"", `"`, `a`, `a"`, `"a`, ` ""`, `"" `, `""a`, `"""`, `""""`, `"a"b"`, `"a" "b"`, `'a'`, "\"\n\"", "\"\x00\"", "\"\x1f\"", "\"\t\"",
		`"\"`, `"\\\"`, `"\`, `"\x`, `"\x"`, `"\x4`, `"\x4"`, `"\x41`, `"\x4g"`, `"\xg4"`, `"\x+4"`, `"\x-4"`, `"\x 4"`, `"\x0x41"`[:6] + `"`, `"\x_4"`, `"\X41"`, `"\N"`, `"\u0041"`, `"\'"`,
		"\"\xff\"", "\"\xc3\"", "\"\xc3", "\"\xe2\x82\"", "\"\xed\xa0\x80\"", "\"\xc0\xa0\"", "\"\xf4\x90\x80\x80\"", "\"a\x80\"", "\xef\xbb\xbf\"\"",
		"\"\"\x00", "\"a\"\n",
	} {
		wantUnquote(t, s, "", false)
	}
	wantUnquote(t, `""`, "", true)
	wantUnquote(t, `"\x00\xff\xC3\xa9\n\\\"n"`, "\x00\xff\u00e9\n\\\"n", true)
	wantUnquote(t, "\"\x7f\u0080\u009f\ufffd\U0010ffff\"", "\x7f\u0080\u009f\ufffd\U0010ffff", true)
}

// P4.1, P4.2: any bytes, against the chapter said in another way; Unquote of Quote, and Quote's answer is a text.
func TestQuoteOfAnyBytes(t *testing.T) {
	r := rand.New(rand.NewSource(41))
	for range 20000 {
		s := anyBytes(r)
		wantQuote(t, s, refQuote(s))
		word := note.Quote(s)
		if octet.Utf8(word) >= 0 || !utf8.ValidString(word) || strings.ContainsAny(word, "\n\r\t\x00") {
			t.Errorf("Quote(%+q): %+q is no text of one line", s, word)
		}
		wantUnquote(t, word, s, true)
		for _, other := range []string{s, `"` + s + `"`, word + s, `"` + s + word[1:], word[:r.Intn(len(word))]} {
			said, is := refUnquote(other)
			wantUnquote(t, other, said, is)
		}
	}
}

// P4.1, P4.2: great ones.
func TestQuoteOfLongTexts(t *testing.T) {
	for _, s := range []string{strings.Repeat("a", 1<<22), strings.Repeat("\x00", 1<<20), strings.Repeat("\u20ac\xff\"", 1<<18)} {
		if said, is := note.Unquote(note.Quote(s)); said != s || !is {
			t.Errorf("a text of %d bytes came back with %d, %v", len(s), len(said), is)
		}
	}
}
