package note_test

import (
	"math/big"
	"math/rand"
	"slices"
	"strconv"
	"strings"
	"testing"

	"longshore/api"
	"longshore/note"
	"longshore/sample"
)

func TestErrorNumbers(t *testing.T) {
	for i, e := range []api.Errno{api.ErrNote, api.ErrDigits, api.ErrQuote, api.ErrClose, api.ErrRest} {
		if int(e) != 40+i {
			t.Errorf("the error in place %d is %d, want %d", i, e, 40+i)
		}
	}
}

// P4.4: integers, one beyond each end, and what is none.
func TestParseOfIntegers(t *testing.T) {
	one := big.NewInt(1)
	for kind, limit := range limits {
		name := kindNames[kind] + " "
		below := new(big.Int).Sub(bigNumber(limit[0], 10), one).String()
		above := new(big.Int).Add(bigNumber(limit[1], 10), one).String()
		for _, digits := range []string{below, above, "-0", "00", "01", "-01", "-00", "0-", "-", "--1", "1-", "1-2", "+1", "1a", "a", "0x1", "1e1", "true", "null", "99999999999999999999", "-99999999999999999999", "18446744073709551616", "18446744073709551617", strings.Repeat("9", 5000), "0" + limit[1], "\"1\"", "[", "]", "}", ")", ":", ",", "!", "\xff", "\x00"} {
			wantFaults(t, []faulty{{name + digits, len(name), api.ErrDigits}, {"[null " + name + "\n" + digits + "]", len("[null \n" + name), api.ErrDigits}})
		}
		wantFaults(t, []faulty{{name + "1.5", len(name) + 1, api.ErrRest}, {name + "1_0", len(name) + 1, api.ErrRest}, {name, len(name), api.ErrDigits}, {name[:len(name)-1], len(name) - 1, api.ErrDigits}, {"[" + name + "]", len(name) + 1, api.ErrDigits}, {name + "\"", len(name), api.ErrQuote}})
	}
	for n := 0xd800; n <= 0xdfff; n++ {
		wantParse(t, "char "+strconv.Itoa(n), api.Value{}, 5, api.ErrDigits)
	}
}

// P4.4: hexadecimal digits, too few, too many, and what is none.
func TestParseOfBits(t *testing.T) {
	for kind, count := range hexDigits {
		name := kindNames[kind] + " "
		good := strings.Repeat("0123456789abcdef", 3)
		for _, digits := range []string{good[:count-1], good[:count+1], good[:count/2], good[:count-2], good[:count+2], "0", "", "A" + good[:count-1], "g" + good[:count-1], good[:count-1] + "g", "-" + good[:count-1], "0x" + good[:count-2], good[:count-1] + "-", "\"" + good[:count] + "\"", "]", "null", strings.Repeat("0", 9000)} {
			wantFaults(t, []faulty{{name + digits, len(name), api.ErrDigits}, {"(" + name + digits, len(name) + 1, api.ErrDigits}})
		}
		// What stands behind the last digit is another token.
		wantFaults(t, []faulty{{name + good[:count] + "F", len(name) + count, api.ErrRest}, {name + good[:count-1] + "F", len(name), api.ErrDigits}, {name + "\"" + good[:count], len(name), api.ErrQuote}})
	}
}

// P4.4: where a value must begin.
func TestParseOfBeginnings(t *testing.T) {
	for _, ahead := range []string{"", "[", "[null ", "{", "{null:", "{null:null,", "(", "(null ", "array uint ["} {
		var all []faulty
		at := len(ahead)
		add := func(s string, e api.Errno) { all = append(all, faulty{ahead + s, at, e}) }
		for _, s := range []string{"bool", "string", "list", "map", "described", "nul", "nulls", "truefalse", "true-", "-null", "0", "1", "-1", "null0", "uint7", "x", ":", ",", "!", "'a'", "\x00", "\x7f", "\x80", "\xff", "\u00e9", "N", "Null", ";", "<", "\\", "\v", "\f", "\u00a0", "/", "?", "a", "A"} {
			add(s, api.ErrNote)
		}
		for _, s := range []string{"]", "}", ")"} {
			if !slices.Contains([]string{"[]", "[null ]", "{}", "array uint []"}, ahead+s) {
				add(s, api.ErrClose)
			}
		}
		end := api.ErrClose
		if ahead == "" {
			end = api.ErrNote
		}
		add("", end)
		add("\"", api.ErrQuote)
		add("\"\\\"", api.ErrQuote)
		wantFaults(t, all)
		wantParse(t, ahead+" # \"\n", api.Value{}, at+5, end)
		wantParse(t, ahead+"#", api.Value{}, at+1, end)
	}
}

// P4.4: words in quotes.
func TestParseOfWords(t *testing.T) {
	wantFaults(t, []faulty{
		{`binary`, 6, api.ErrQuote}, {`binary x`, 7, api.ErrQuote}, {`symbol 1`, 7, api.ErrQuote}, {`symbol ]`, 7, api.ErrQuote}, {`binary binary "a"`, 7, api.ErrQuote}, {`[binary]`, 7, api.ErrQuote}, {`symbol !`, 7, api.ErrQuote}, {"symbol # a\n", 11, api.ErrQuote},
		{`"a`, 0, api.ErrQuote}, {`"`, 0, api.ErrQuote}, {`"\`, 0, api.ErrQuote}, {`"\"`, 0, api.ErrQuote}, {`"\t"`, 0, api.ErrQuote}, {`"\x4"`, 0, api.ErrQuote}, {"\"\n\"", 0, api.ErrQuote}, {"\"\xff\"", 0, api.ErrQuote}, {`binary "\q"`, 7, api.ErrQuote}, {"symbol \"\xc3\"", 7, api.ErrQuote},
		{`"\xff"`, 0, api.ErrText}, {`["a" "\xc3"]`, 5, api.ErrText}, {`"\xed\xa0\x80"`, 0, api.ErrText}, {`"a\x80"`, 0, api.ErrText},
		{`symbol "\x80"`, 7, api.ErrText}, {"symbol \"a\u00e9\"", 7, api.ErrText}, {`symbol "\xc3\xa9"`, 7, api.ErrText}, {"symbol  \n\"\xc2\x80\"", 9, api.ErrText},
		{`"a"b"`, 3, api.ErrRest}, {`"a""`, 3, api.ErrQuote}, {`"a""b"`, 3, api.ErrRest}, {`"a"!`, 3, api.ErrRest},
		// A bad word ahead of anything else that is amiss with it.
		{`true "`, 5, api.ErrQuote}, {`uint "`, 5, api.ErrQuote}, {`float "`, 6, api.ErrQuote}, {`array "`, 6, api.ErrQuote}, {`array uint "`, 11, api.ErrQuote}, {`{null "`, 6, api.ErrQuote}, {`{null: null "`, 12, api.ErrQuote}, {`(null null "`, 11, api.ErrQuote},
		{`true "a"`, 5, api.ErrRest}, {`uint "a"`, 5, api.ErrDigits}, {`array "uint"`, 6, api.ErrNote}, {`array uint "["`, 11, api.ErrNote}, {`{null ":"`, 6, api.ErrNote}, {`{null: null ","`, 12, api.ErrNote}, {`(null null ")"`, 11, api.ErrNote},
		// Bytes that are no text do no harm where no String is meant.
		{`{null "\xff"`, 6, api.ErrNote}, {`uint "\xff"`, 5, api.ErrDigits}, {`true "\xff"`, 5, api.ErrRest},
	})
	wantParse(t, `binary "\xFF\x0a\n"`, text(api.Binary, "\xff\n\n"), 0, api.OK)
	wantParse(t, `"\xc3\xa9"`, text(api.String, "\u00e9"), 0, api.OK)
	wantParse(t, `symbol "\x7f"`, text(api.Symbol, "\x7f"), 0, api.OK)
	wantParse(t, "\"\u0085\"", text(api.String, "\u0085"), 0, api.OK)
	wantParse(t, `["a""b"symbol"c"]`, list(text(api.String, "a"), text(api.String, "b"), text(api.Symbol, "c")), 0, api.OK)
}

// P4.4: what stands in lists, maps, arrays and described values, and what closes them.
func TestParseOfParts(t *testing.T) {
	wantFaults(t, []faulty{
		{"[true", 5, api.ErrClose}, {"[true}", 5, api.ErrClose}, {"[true)", 5, api.ErrClose}, {"[true, false]", 5, api.ErrNote}, {"[:]", 1, api.ErrNote}, {"[[]", 3, api.ErrClose}, {"[]]", 2, api.ErrRest},
		{"{", 1, api.ErrClose}, {"{]", 1, api.ErrClose}, {"{,", 1, api.ErrNote}, {"{true", 5, api.ErrClose}, {"{true}", 5, api.ErrClose}, {"{true]", 5, api.ErrClose}, {"{true,", 5, api.ErrNote}, {"{true null", 6, api.ErrNote}, {"{true[", 5, api.ErrNote}, {"{true!", 5, api.ErrNote},
		{"{true:", 6, api.ErrClose}, {"{true:}", 6, api.ErrClose}, {"{true::", 6, api.ErrNote}, {"{true:,", 6, api.ErrNote},
		{"{true:null", 10, api.ErrClose}, {"{true:null]", 10, api.ErrClose}, {"{true:null)", 10, api.ErrClose}, {"{true:null:", 10, api.ErrNote}, {"{true:null null", 11, api.ErrNote}, {"{true:null?", 10, api.ErrNote}, {"{true:null[", 10, api.ErrNote},
		{"{true:null,", 11, api.ErrClose}, {"{true:null,}", 11, api.ErrClose}, {"{true:null,,", 11, api.ErrNote}, {"{true:null,false}", 16, api.ErrClose},
		{"(", 1, api.ErrClose}, {"()", 1, api.ErrClose}, {"(null", 5, api.ErrClose}, {"(null)", 5, api.ErrClose}, {"(null]", 5, api.ErrClose}, {"(null,", 5, api.ErrNote}, {"(null null", 10, api.ErrClose}, {"(null null]", 10, api.ErrClose}, {"(null null}", 10, api.ErrClose}, {"(null null null)", 11, api.ErrNote}, {"(null null,", 10, api.ErrNote}, {"(null null!", 10, api.ErrNote}, {"(null null[", 10, api.ErrNote},
		{"array", 5, api.ErrNote}, {"array ]", 6, api.ErrNote}, {"array [", 6, api.ErrNote}, {"array 1", 6, api.ErrNote}, {"array uin []", 6, api.ErrNote}, {"array true []", 6, api.ErrNote}, {"array !", 6, api.ErrNote},
		{"array null", 6, api.ErrArray}, {"array null []", 6, api.ErrArray}, {"array described [", 6, api.ErrArray},
		{"array uint", 10, api.ErrNote}, {"array uint ]", 11, api.ErrNote}, {"array uint {", 11, api.ErrNote}, {"array uint uint", 11, api.ErrNote}, {"array uint (", 11, api.ErrNote}, {"array uint 1", 11, api.ErrNote},
		{"array uint [", 12, api.ErrClose}, {"array uint [}", 12, api.ErrClose}, {"array uint [uint 1", 18, api.ErrClose}, {"array uint [uint 1,", 18, api.ErrNote}, {"array uint []]", 13, api.ErrRest},
		{"array uint [int 1]", 12, api.ErrArray}, {"array uint [uint 1 int 1]", 19, api.ErrArray}, {"array uint [null]", 12, api.ErrArray}, {"array list [[] {}]", 15, api.ErrArray}, {"array string [symbol \"a\"]", 14, api.ErrArray}, {"array array [array uint [] array uint [int 1]]", 39, api.ErrArray}, {"array array [array uint [] []]", 27, api.ErrArray},
		// Behind the element, not ahead of what is amiss in it, and ahead of what stands behind it.
		{"array uint [int]", 15, api.ErrDigits}, {"array uint [[", 13, api.ErrClose}, {"array uint [[null] !", 12, api.ErrArray}, {"array uint [int 1 \"", 12, api.ErrArray}, {"array uint [{null: null, null: null}]", 12, api.ErrMap},
		{"null null", 5, api.ErrRest}, {"null]", 4, api.ErrRest}, {"null,", 4, api.ErrRest}, {"null !", 5, api.ErrRest}, {"null \x00", 5, api.ErrRest}, {"[] \xff", 3, api.ErrRest}, {"null # a\n null", 10, api.ErrRest},
	})
}

// P4.4: ErrMap, at the map's first sign, behind its last one.
func TestParseOfMaps(t *testing.T) {
	wantFaults(t, []faulty{
		{"{true: null, true: null}", 0, api.ErrMap}, {"[null {uint 1: [], uint 2: [], uint 1: {}}", 6, api.ErrMap}, {"{[]: null, []: null} !", 0, api.ErrMap}, {"{[]: null, []: null} \"", 0, api.ErrMap},
		{"{[]: null, []: null", 19, api.ErrClose}, {"{[]: null, []: null, !", 21, api.ErrNote},
		{`{"a": null, "\x61": null}`, 0, api.ErrMap}, {"{{[]: [], []: []}: null}", 1, api.ErrMap}, {"{null: {[]: [], []: []}, null: null}", 7, api.ErrMap},
		{"{array uint []: null, array uint []: null}", 0, api.ErrMap}, {"{(null []): null, (null []): null}", 0, api.ErrMap},
	})
	for _, s := range []string{`{"a": null, symbol "a": null, binary "a": null}`, "{uint 1: null, int 1: null, ulong 1: null}", "{float 00000000: null, float 80000000: null}", "{array uint []: null, array int []: null}", "{null: uint 1, uint 1: null}", "{[]: [], [[]]: [], [[] []]: []}"} {
		wantAsSaid(t, s)
		if _, _, e := note.Parse(s); e != api.OK {
			t.Errorf("Parse(%s): %d", s, e)
		}
	}
	for _, n := range []int{1023, 1024, 1025, 1026, 3000} {
		v := pairs(sample.Keyed(n)...)
		s := refPrint(v)
		if n <= 1024 {
			wantParse(t, s, v, 0, api.OK)
			v.List[2*n-2] = v.List[0]
			wantParse(t, refPrint(v), api.Value{}, 0, api.ErrMap)
			continue
		}
		wantParse(t, s, api.Value{}, 0, api.ErrMap)
		wantParse(t, "["+s[:len(s)-1], api.Value{}, len(s), api.ErrClose)
		wantParse(t, "[ "+s, api.Value{}, 2, api.ErrMap)
	}
}

// P4.4: ErrDeep, at the first token of the value that stands too deep.
func TestParseOfDepth(t *testing.T) {
	for _, c := range []struct{ open, close string }{{"[", "]"}, {"{null:", "}"}, {"{", ":null}"}, {"(null ", ")"}, {"(", " null)"}, {"array array [", "]"}, {" # a\n[", "\n]"}} {
		s := func(n int, inner string) string {
			return strings.Repeat(c.open, n) + inner + strings.Repeat(c.close, n)
		}
		wantAsSaid(t, s(31, "array uint []"))
		if _, _, e := note.Parse(s(31, "array uint []")); e != api.OK {
			t.Errorf("Parse(%s): %d", s(31, "array uint []"), e)
		}
		wantAsSaid(t, s(32, "null"))
		deep := 31*len(c.open) + len("[ ")
		for _, v := range []string{"null", "true", "uint", "uint x", "\"\\xff\"", "symbol", "[", "{", "(", "array", "array x"} {
			wantParse(t, s(31, "[ "+v+"]"), api.Value{}, deep, api.ErrDeep)
		}
		for _, v := range []string{"nul", "!", ":", ",", "string"} {
			wantParse(t, s(31, "[ "+v+"]"), api.Value{}, deep, api.ErrNote)
		}
		wantParse(t, s(31, "[ }"), api.Value{}, deep, api.ErrClose)
		wantParse(t, s(31, "[ \""), api.Value{}, deep, api.ErrQuote)
	}
	wantFaults(t, []faulty{
		{strings.Repeat("[", 1<<16), 32, api.ErrDeep}, {strings.Repeat("(", 1<<16), 32, api.ErrDeep}, {strings.Repeat("[", 32), 32, api.ErrClose}, {strings.Repeat("[", 32) + "}", 32, api.ErrClose},
		{strings.Repeat("[", 31) + "array uint [uint 1]", 43, api.ErrDeep}, {strings.Repeat("(", 32) + ")", 32, api.ErrClose},
	})
}

// P4.4: blanks and comments, ahead of, between and behind tokens.
func TestParseOfBlanks(t *testing.T) {
	v := pairs(text(api.Symbol, "a"), list(num(api.Uint, 1), array(api.Int, signed(api.Int, -5))), described(num(api.Bool, 1), text(api.String, "#")), api.Value{})
	tokens := []string{"{", "symbol", `"a"`, ":", "[", "uint", "1", "array", "int", "[", "int", "-5", "]", "]", ",", "(", "true", `"#"`, ")", ":", "null", "}"}
	blanks := []string{" ", "\t", "\n", "\r", "#\n", "# \" ] \xff\x00 \u00e9\n", " \t\r\n", "##\n#\n", "#\r\n"}
	for _, blank := range blanks {
		wantParse(t, strings.Join(tokens, blank), v, 0, api.OK)
		wantParse(t, blank+strings.Join(tokens, blank)+blank, v, 0, api.OK)
		for i := range tokens {
			s := strings.Join(tokens[:i], " ") + blank + strings.Join(tokens[i:], " ")
			wantParse(t, s, v, 0, api.OK)
		}
	}
	wantParse(t, `{symbol"a":[uint 1array int[int -5]](true"#"):null}`, api.Value{}, 17, api.ErrDigits)
	wantParse(t, `{symbol"a":[uint 1 array int[int -5]],(true"#"):null}# the text's end closes it`, v, 0, api.OK)
	wantParse(t, "null#", api.Value{}, 0, api.OK)
	wantParse(t, "null#null", api.Value{}, 0, api.OK)
	wantParse(t, "null#null\r!", api.Value{}, 0, api.OK) // 0D ends no comment
	wantParse(t, "null#null\n!", api.Value{}, 10, api.ErrRest)
	wantParse(t, "uint#\n7", num(api.Uint, 7), 0, api.OK)
	wantParse(t, "uint#7", api.Value{}, 6, api.ErrDigits)
	wantParse(t, `"#"`, text(api.String, "#"), 0, api.OK)
	for b := range 256 {
		s := string([]byte{byte(b)})
		wantAsSaid(t, s+"null")
		wantAsSaid(t, "[null"+s+"null]")
		wantAsSaid(t, "null"+s)
		wantAsSaid(t, "{null"+s+"null}")
		wantAsSaid(t, "uint "+s+"1")
	}
}

// P4.4: texts of just MaxNote bytes, and one more.
func TestParseUpToMaxNote(t *testing.T) {
	for _, s := range []string{"null", "null#", "nul", "[", "\"a", "\"a\"", "{[]: [], []: []}"} {
		full := s + strings.Repeat(" ", api.MaxNote-len(s))
		wantAsSaid(t, full)
		wantParse(t, full+" ", api.Value{}, 0, api.ErrLong)
	}
	wantParse(t, strings.Repeat(" ", api.MaxNote), api.Value{}, api.MaxNote, api.ErrNote)
	wantParse(t, strings.Repeat("[", api.MaxNote), api.Value{}, 32, api.ErrDeep)
	wantParse(t, strings.Repeat("[", api.MaxNote+1), api.Value{}, 0, api.ErrLong)
	wantParse(t, strings.Repeat(" ", 1<<26), api.Value{}, 0, api.ErrLong)
	lists := (api.MaxNote - 2) / 2
	wantParse(t, "["+strings.Repeat("[]", lists)+"]", list(sample.Many(lists, list())...), 0, api.OK)
	wantParse(t, "\""+strings.Repeat("\u0085", lists)+"\"", text(api.String, strings.Repeat("\u0085", lists)), 0, api.OK)
	wantParse(t, "\""+strings.Repeat("a", api.MaxNote-1), api.Value{}, 0, api.ErrQuote)
}

// P4.4: a text cut at each place.
func TestParseOfCutTexts(t *testing.T) {
	r, simple := rand.New(rand.NewSource(43)), simple()
	whole := []string{
		`{symbol "k": [], uint 1: char 65, (ulong 16 {}): array int [int -1 int 2147483647]} # end`,
		"[null true \"a\\x41\u20ac\" float 3f800000 uuid 01010101010101010101010101010101 array list [[] [null]]]",
	}
	for len(whole) < 200 {
		if s := refPrint(mayBe(r.Intn, simple, 3)); len(s) < 800 {
			whole = append(whole, s)
		}
	}
	for _, s := range whole {
		for cut := range len(s) + 1 {
			wantAsSaid(t, s[:cut])
		}
	}
}

// P4.4: texts in which something is amiss, by chance.
func TestParseOfSpoiltTexts(t *testing.T) {
	r, simple := rand.New(rand.NewSource(44)), simple()
	for range 20000 {
		s := refPrint(mayBe(r.Intn, simple, r.Intn(4)))
		if len(s) > 3000 {
			continue
		}
		for range 1 + r.Intn(3) {
			s = spoil(r, s)
		}
		wantAsSaid(t, s)
	}
}

// bits and ends of texts that mean something.
var scraps = strings.Split(`[|]|{|}|(|)|:|,|"|\|#|-|0|1|7|f|a|null|true|false|bool |uint |uint 1|int -1|int -0|byte 128|char 55296|float 3f800000|float |binary |symbol |"a"|"\xff"|"\x|array |array uint [|array null [|array list |described|string "a"|map|!|`+"\n| |\t|\r|\x00|\xff|\u00e9|# a\n|#", "|")

func spoil(r *rand.Rand, s string) string {
	at := r.Intn(len(s) + 1)
	scrap := scraps[r.Intn(len(scraps))]
	switch r.Intn(4) {
	case 0:
		return s[:at] + scrap + s[at:]
	case 1:
		return s[:at] + scrap + s[min(len(s), at+len(scrap)):]
	case 2:
		return s[:at] + s[min(len(s), at+1+r.Intn(4)):]
	}
	from := r.Intn(len(s) + 1)
	return s[:at] + s[from:min(len(s), from+r.Intn(20))] + s[at:]
}

// P4.4: scraps one behind the other.
func TestParseOfScraps(t *testing.T) {
	r := rand.New(rand.NewSource(45))
	for range 100000 {
		var s strings.Builder
		for range 1 + r.Intn(8) {
			s.WriteString(scraps[r.Intn(len(scraps))])
			if r.Intn(2) == 0 {
				s.WriteByte(' ')
			}
		}
		wantAsSaid(t, s.String())
	}
}
