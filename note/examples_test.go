package note_test

import (
	"strings"
	"testing"

	"longshore/api"
)

// The chapter's table of examples, row by row.
func TestExamples(t *testing.T) {
	wantQuote(t, "\x61\x22\x62", `"a\"b"`)

	wantQuote(t, "\x00\x0a\xc3\xa9\xc2\x85\xff", `"\x00\né\xc2\x85\xff"`)

	wantUnquote(t, `"\x41\n"`, "\x41\x0a", true)
	wantUnquote(t, `"a`, "", false)
	wantUnquote(t, `"a"b"`, "", false)
	wantUnquote(t, `"\t"`, "", false)

	wantPrint(t, num(api.Ulong, 16), "ulong 16", api.OK)
	wantPrint(t, num(api.Int, 1<<64-1), "int -1", api.OK)
	wantPrint(t, num(api.Float, 0x3f800000), "float 3f800000", api.OK)
	wantPrint(t, text(api.Uuid, strings.Repeat("\x01", 16)), "uuid 01010101010101010101010101010101", api.OK)

	wantPrint(t, list(api.Value{}, num(api.Bool, 1), text(api.String, "a b")), `[null true "a b"]`, api.OK)

	wantPrint(t, pairs(text(api.Symbol, "k"), list(), num(api.Uint, 1), num(api.Char, 65)), `{symbol "k": [], uint 1: char 65}`, api.OK)

	wantPrint(t, array(api.Uint, num(api.Uint, 1), num(api.Uint, 2)), "array uint [uint 1 uint 2]", api.OK)
	wantPrint(t, array(api.List), "array list []", api.OK)

	wantPrint(t, described(num(api.Ulong, 16), pairs()), "(ulong 16 {})", api.OK)

	wantParse(t, "  uint 7 # seven\n", num(api.Uint, 7), 0, api.OK)
	wantFaults(t, []faulty{
		{"uint 07", 5, api.ErrDigits}, {"uint", 4, api.ErrDigits}, {"ubyte 256", 6, api.ErrDigits},

		{"", 0, api.ErrNote}, {"nul", 0, api.ErrNote}, {"]", 0, api.ErrClose}, {"[true", 5, api.ErrClose}, {"[true}", 5, api.ErrClose}, {"true false", 5, api.ErrRest},

		{"{true 1}", 6, api.ErrNote}, {"{true: null, }", 13, api.ErrClose}, {"{true: null, true: null}", 0, api.ErrMap},

		{"(null)", 5, api.ErrClose}, {"(null null null)", 11, api.ErrNote}, {"array null []", 6, api.ErrArray}, {"array uint [int 1]", 12, api.ErrArray}, {"array uint", 10, api.ErrNote},

		{`symbol "\xff"`, 7, api.ErrText}, {"binary x", 7, api.ErrQuote}, {`"a`, 0, api.ErrQuote}, {"char 55296", 5, api.ErrDigits},
	})
}
