package sieve_test

import (
	"math"
	"math/big"
	"slices"
	"strings"
	"testing"

	"longshore/api"
	"longshore/sieve"
)

// P16.2: numbers without a point and an e.
func TestParseOfLongs(t *testing.T) {
	for text, n := range map[string]int64{"0": 0, "7": 7, "007": 7, "000": 0, "9": 9, "10": 10, "9223372036854775806": math.MaxInt64 - 1, "9223372036854775807": math.MaxInt64, strings.Repeat("0", 4000) + "9223372036854775807": math.MaxInt64} {
		wantTerm(t, text, long(n))
		wantTerm(t, "-"+text[:min(len(text), 4095)], of(sieve.Negative, long(n)))
	}
	for _, text := range []string{"9223372036854775808", "9223372036854775809", "18446744073709551615", "18446744073709551616", "18446744073709551617", "99999999999999999999", "0009223372036854775808", strings.Repeat("9", 4000)} {
		wantFault(t, text, 0, api.ErrOperand)
		wantFault(t, "-"+text, 1, api.ErrOperand)
		wantFault(t, "a  = "+text+" ?", 5, api.ErrOperand)
		wantFault(t, "a in (1, "+text+"?", 9, api.ErrOperand)
		if text != "9223372036854775808" && text != "0009223372036854775808" {
			wantFault(t, "a in (1, - "+text+"?", 11, api.ErrOperand)
		}
		// Where no number may stand it is a token that may not stand there.
		wantFault(t, "a "+text, 2, api.ErrSieve)
		wantFault(t, "a like "+text, 7, api.ErrSieve)
	}
	for text, n := range map[string]int64{"-1": -1, "- 1": -1, "-\n\t1": -1, "-0": 0, "-9223372036854775807": -math.MaxInt64, "-9223372036854775808": math.MinInt64, "-0009223372036854775808": math.MinInt64, "9223372036854775807": math.MaxInt64} {
		wantTerm(t, "a in ("+text+")", of(sieve.In, name("a"), long(n)))
		wantTerm(t, "a in ('x',"+text+",true)", of(sieve.In, name("a"), str("x"), long(n), yes()))
	}
}

// P16.2: numbers with a point or an e: the Double nearest to them, of two as near the even one.
func TestParseOfDoubles(t *testing.T) {
	half := new(big.Int).Sub(new(big.Int).Lsh(big.NewInt(1), 1024), new(big.Int).Lsh(big.NewInt(1), 970)).String() // between the greatest Double and 2^1024
	small := new(big.Rat).SetFrac(big.NewInt(1), new(big.Int).Lsh(big.NewInt(1), 1075)).FloatString(1075)          // between 0 and the least Double
	for text, f := range map[string]float64{
		"0.0": 0, "0e0": 0, "0E+5": 0, "0e-99999": 0, "0e99999": 0, "0.0e999999999999999999999999": 0, "1.0": 1, "1e0": 1, "1E0": 1, "1e+00": 1, "1e-0": 1, "01.50": 1.5, "1e2": 100, "1e+2": 100, "1E-2": 0.01, "0.1": 0.1, "2.5": 2.5, "123.456e3": 123456, "123.456E-3": 0.123456, "1.0e1": 10,
		"9007199254740992.0": 1 << 53, "9007199254740993.0": 1 << 53, "9007199254740993e0": 1 << 53, "9007199254740994.0": 1<<53 + 2, "9007199254740995.0": 1<<53 + 4, "9007199254740993.00000000000000000000000000000000000000001": 1<<53 + 2, "9007199254740992.99999999999999999999999999999999999999999": 1 << 53,
		"9007199254740993." + strings.Repeat("0", 3000) + "1": 1<<53 + 2, "900719925474099300000e-5": 1 << 53, "0.00009007199254740995e20": 1<<53 + 4,
		"9223372036854775807.0": 1 << 63, "9223372036854775808.0": 1 << 63, "18446744073709551616.0": 1 << 64,
		"1.7976931348623157e308": math.MaxFloat64, "1.7976931348623158e308": math.MaxFloat64, "17976931348623157e292": math.MaxFloat64,
		"5e-324": 5e-324, "2.4703282292062328e-324": 5e-324, "2.4703282292062327e-324": 0, "1e-400": 0, "1e-99999999999999999999": 0, small: 0, small + "1": 5e-324, "7.4e-324": 5e-324, "7.5e-324": 1e-323, "2.2250738585072011e-308": 2.2250738585072011e-308, "2.2250738585072014e-308": 2.2250738585072014e-308,
		"0." + strings.Repeat("0", 4000) + "1e4001": 1, "1" + strings.Repeat("0", 4000) + "e-4000": 1, "1" + strings.Repeat("0", 4000) + "e-3700": 1e300, "0." + strings.Repeat("0", 4000) + "1e3700": 1e-301, "1e000000000000000000005": 1e5,
	} {
		wantTerm(t, text, double(f))
		wantTerm(t, "a in ("+text+")", of(sieve.In, name("a"), double(f)))
		if len(text) < 4000 {
			wantTerm(t, "a in (- "+text+", 1)", of(sieve.In, name("a"), double(math.Copysign(f, -1)), long(1)))
		}
		wantTerm(t, "-"+text, of(sieve.Negative, double(f)))
	}
	for _, text := range []string{"1e309", "1e999", "1.7976931348623159e308", "2e308", half + ".0", half + "e0", "1e99999999999999999999", strings.Repeat("9", 400) + ".5", "0." + strings.Repeat("0", 400) + "1e9999"} {
		wantFault(t, text, 0, api.ErrOperand)
		wantFault(t, "1 + "+text+" ?", 4, api.ErrOperand)
		wantFault(t, "a in (-"+text, 7, api.ErrOperand)
		wantFault(t, "a "+text, 2, api.ErrSieve)
	}
	below, _ := new(big.Int).SetString(half, 10)
	wantTerm(t, below.Sub(below, big.NewInt(1)).String()+".999", double(math.MaxFloat64))
}

// P16.2: where a number ends.
func TestParseOfNumbersEnds(t *testing.T) {
	for text, at := range map[string]int{"1.": 1, "1..5": 1, ".5": 0, "1.e5": 1, "1e": 1, "1e+": 1, "1e-": 1, "1E": 1, "1.5e": 3, "1.5e+": 3, "1.5.5": 3, "1e5.5": 3, "1e5e5": 3, "1_": 1, "1a": 1, "0x1": 1, "1 .5": 2, "1. 5": 1, "1 e5": 2, "1e 5": 1, "1e+ 5": 1, "1e--5": 1} {
		wantFault(t, text, at, api.ErrSieve)
	}
	wantTerm(t, "1-2", of(sieve.Minus, long(1), long(2)))
	wantTerm(t, "1e2-3", of(sieve.Minus, double(100), long(3)))
	wantTerm(t, "1e2+3", of(sieve.Plus, double(100), long(3)))
	wantTerm(t, "1.5-2.5", of(sieve.Minus, double(1.5), double(2.5)))
	wantTerm(t, "1e-2-3e+4", of(sieve.Minus, double(0.01), double(30000)))
	wantTerm(t, "1and 2", of(sieve.And, long(1), long(2)))
	wantTerm(t, "1in(2)", of(sieve.In, long(1), long(2)))
	wantTerm(t, "1or 2", of(sieve.Or, long(1), long(2)))
	wantTerm(t, "1like''", fit(long(1), "", ""))
	// An e behind which no digits stand begins a word.
	wantFault(t, "a like 'x'escape'!'1escape", 19, api.ErrSieve)
	wantFault(t, "1escape", 1, api.ErrSieve)
}

// P16.2: texts.
func TestParseOfTexts(t *testing.T) {
	for text, s := range map[string]string{"''": "", "'a'": "a", "''''": "'", "''''''": "''", "'a''b'": "a'b", "'''a'": "'a", "'a'''": "a'", "'\"'": "\"", "'\"\"'": "\"\"", "' a\n\t\x00'": " a\n\t\x00", "'é\u20ac\U0010ffff'": "é\u20ac\U0010ffff", "'and ? ( 1.'": "and ? ( 1.", "'\\'": "\\", "'" + strings.Repeat("x", 4094) + "'": strings.Repeat("x", 4094)} {
		wantTerm(t, text, str(s))
	}
	for text, at := range map[string]int{"'": 0, "'a": 0, "'a''": 0, "'''": 0, "'''''": 0, " 'a": 1, "a = 'b''": 4, "'a' = 'b": 6, "'a'' = 'b'": 8, "a like 'x": 7, "a like 'x' escape '!": 18, "a in ('x": 6, "a in ('x', 'y": 11, "'\xff": 0} {
		wantFault(t, text, at, api.ErrSieve)
	}
	for _, text := range []string{"'\xff'", "'a\x80'", "'\xc3'", "'\xed\xa0\x80'", "'\xc0\x80'", "'é\xff'"} {
		wantFault(t, text, 0, api.ErrOperand)
		wantFault(t, "a = "+text+" '", 4, api.ErrOperand)
		wantFault(t, "a like "+text+" '", 7, api.ErrOperand)
		wantFault(t, "a in (1,"+text+" '", 8, api.ErrOperand)
		wantFault(t, "a like 'x' escape "+text+" '", 18, api.ErrOperand)
		wantFault(t, "a "+text, 2, api.ErrSieve)
		wantFault(t, "a in (-"+text, 7, api.ErrSieve)
	}
}

// P16.2: words, and those of them that are keywords.
func TestParseOfWords(t *testing.T) {
	for _, word := range []string{"a", "z", "A", "Z", "_", "__", "a1", "a.b", "a.", "a..", "a.1", "_1", "a-b", "a-1", "a-_", "a-b-c", "a.-b", "a1-2", "_-_", "a_b", "Az09_.", "ands", "an", "and1", "and-or", "not.", "not_", "_not", "nulll", "nul", "trues", "e", "E1", "e-1", "is-null", "likes", "escaped", "inn", "i", strings.Repeat("n", 64), "a-b.c-d"} {
		wantTerm(t, word, name(word))
		wantTerm(t, "("+word+")", name(word))
		wantTerm(t, "\""+word+"\"", name(word))
		wantTerm(t, word+"=1", of(sieve.Same, name(word), long(1)))
		wantTerm(t, "1="+word, of(sieve.Same, long(1), name(word)))
		wantTerm(t, "-"+word, of(sieve.Negative, name(word)))
	}
	a, b := name("a"), name("b")
	wantTerm(t, "a -b", of(sieve.Minus, a, b))
	wantTerm(t, "a- b", of(sieve.Minus, a, b))
	wantTerm(t, "a--b", of(sieve.Minus, a, of(sieve.Negative, b)))
	wantTerm(t, "a-(b)", of(sieve.Minus, a, b))
	wantTerm(t, "a-\"b\"", of(sieve.Minus, a, b))
	wantTerm(t, "a-'b'", of(sieve.Minus, a, str("b")))
	wantTerm(t, "a-b--c-d", of(sieve.Minus, name("a-b"), of(sieve.Negative, name("c-d"))))
	wantTerm(t, "a-b - c", of(sieve.Minus, name("a-b"), name("c")))
	for text, at := range map[string]int{"a-": 2, "a-.b": 2, "a.-": 3, "a-b-": 4, "-": 1, "a.b c": 4, "a$": 1, "é": 0, "aé": 1, ".a": 0, "a-?": 2, "a- ": 3} {
		wantFault(t, text, at, api.ErrSieve)
	}
	for _, word := range []string{"and", "or", "not", "between", "in", "like", "escape", "is", "null", "true", "false"} {
		for _, w := range []string{word, strings.ToUpper(word), strings.ToUpper(word[:1]) + word[1:], word[:1] + strings.ToUpper(word[1:])} {
			wantTerm(t, "\""+w+"\"", name(w))
			switch word {
			case "true":
				wantTerm(t, w, yes())
			case "false":
				wantTerm(t, w, no())
			case "not":
				wantTerm(t, w+" a", of(sieve.Not, a))
				wantTerm(t, w+"(a)", of(sieve.Not, a))
				wantFault(t, w, len(w), api.ErrSieve)
			default:
				wantFault(t, w, 0, api.ErrSieve)
				wantFault(t, "a = "+w, 4, api.ErrSieve)
			}
		}
	}
	wantTerm(t, "a AND b", of(sieve.And, a, b))
	wantTerm(t, "a OR b", of(sieve.Or, a, b))
	wantTerm(t, "a BETWEEN 1 AND 2", of(sieve.Between, a, long(1), long(2)))
	wantTerm(t, "a IN (1)", of(sieve.In, a, long(1)))
	wantTerm(t, "a LIKE 'x' ESCAPE '!'", fit(a, "x", "!"))
	wantTerm(t, "a IS NULL", of(sieve.Nothing, a))
	wantTerm(t, "a IS NOT NULL", of(sieve.Not, of(sieve.Nothing, a)))
	wantTerm(t, "TRUE=FALSE", of(sieve.Same, yes(), no()))
}

// P16.2: names in quotation marks, and too long ones.
func TestParseOfNames(t *testing.T) {
	for text, s := range map[string]string{"\"a\"": "a", "\"\"\"\"": "\"", "\"a\"\"b\"": "a\"b", "\"'\"": "'", "\"''\"": "''", "\" \"": " ", "\"a\nb\x00\"": "a\nb\x00", "\"é\"": "é", "\"1\"": "1", "\"=\"": "=", "\"" + strings.Repeat("n", 64) + "\"": strings.Repeat("n", 64), "\"" + strings.Repeat("\"\"", 64) + "\"": strings.Repeat("\"", 64), "\"" + strings.Repeat("é", 32) + "\"": strings.Repeat("é", 32)} {
		wantTerm(t, text, name(s))
	}
	for text, at := range map[string]int{"\"": 0, "\"a": 0, "\"a\"\"": 0, "\"\"\"": 0, "a = \"b": 4, "\"a\" \"": 4, "a \"\"": 2, "a in (\"\")": 6, "a like \"\"": 7, "a like 'x' escape \"!\"": 18, "\"a\"\"b\" \"c\"": 7, "'a\"": 0, "\"a'": 0} {
		wantFault(t, text, at, api.ErrSieve)
	}
	for _, text := range []string{"\"\"", "\"\xff\"", "\"a\xc3\"", strings.Repeat("n", 65), "\"" + strings.Repeat("n", 65) + "\"", "\"" + strings.Repeat("\"\"", 65) + "\"", "\"" + strings.Repeat("é", 33) + "\"", "a-" + strings.Repeat("n", 63), strings.Repeat("n", 4000)} {
		wantFault(t, text, 0, api.ErrOperand)
		wantFault(t, "1 < "+text+" ?", 4, api.ErrOperand)
		wantFault(t, "not (-"+text+" ?", 6, api.ErrOperand)
		wantFault(t, "a "+text, 2, api.ErrSieve)
	}
}

// P16.2: blanks, and the longest token at each place.
func TestParseOfSigns(t *testing.T) {
	a, b := name("a"), name("b")
	for text, kind := range map[string]int{"=": sieve.Same, "<>": sieve.Unlike, "<": sieve.Less, "<=": sieve.LessOrSame, ">": sieve.More, ">=": sieve.MoreOrSame, "+": sieve.Plus, "*": sieve.Times, "/": sieve.Over} {
		for _, blank := range []string{"", " ", "\t", "\n", "\r", " \t\r\n "} {
			wantTerm(t, blank+"a"+blank+text+blank+"b"+blank, of(kind, a, b))
		}
	}
	for text, at := range map[string]int{"a < > b": 4, "a < = b": 4, "a > = b": 4, "a =< b": 3, "a => b": 3, "a >< b": 3, "a <>= b": 4, "a <=> b": 4, "a == b": 3, "a << b": 3, "a ** b": 3, "a // b": 3, "a ++ b": 3, "a >>b": 3, "a !b": 2, "a != b": 2, "a % b": 2, "a & b": 2, "a | b": 2, "[a]": 0, "{a}": 0, "a;": 1, "a:": 1, "@a": 0, "#": 0, "a\\b": 1, "`a`": 0, "a^b": 1, "~a": 0, "$a": 0, "a\vb": 1, "a\f": 1, "a\x00": 1, "\u00a0a": 0, "a \x7f": 2, "\x80": 0, "a\xff": 1, "+a": 0, "*a": 0, ",a": 0, "a,b": 1} {
		wantFault(t, text, at, api.ErrSieve)
	}
	for c := range 256 {
		begins := strings.ContainsRune("\t\n\r \"'()*+,-/0123456789<=>_", rune(c)) || c >= 'a' && c <= 'z' || c >= 'A' && c <= 'Z'
		_, at, e := sieve.Parse("a and " + string([]byte{byte(c)}))
		if !begins && (at != 6 || e != api.ErrSieve) {
			t.Errorf("the byte %d: %d, %d", c, at, e)
		}
	}
}

// P16.2: each rule of the grammar.
func TestParseOfGrammar(t *testing.T) {
	a, b, c, d := name("a"), name("b"), name("c"), name("d")
	for text, want := range map[string]api.Term{
		"a or b":                       of(sieve.Or, a, b),
		"a or b or c or d":             of(sieve.Or, a, b, c, d),
		"a and b and c and d":          of(sieve.And, a, b, c, d),
		"a and b or c and d":           of(sieve.Or, of(sieve.And, a, b), of(sieve.And, c, d)),
		"a or b and c or d":            of(sieve.Or, a, of(sieve.And, b, c), d),
		"(a or b) and (c or d)":        of(sieve.And, of(sieve.Or, a, b), of(sieve.Or, c, d)),
		"(a or b) or c":                of(sieve.Or, of(sieve.Or, a, b), c),
		"a or (b or c)":                of(sieve.Or, a, of(sieve.Or, b, c)),
		"not a and b":                  of(sieve.And, of(sieve.Not, a), b),
		"not a or not b":               of(sieve.Or, of(sieve.Not, a), of(sieve.Not, b)),
		"not not not a":                of(sieve.Not, of(sieve.Not, of(sieve.Not, a))),
		"not a = b":                    of(sieve.Not, of(sieve.Same, a, b)),
		"(not a) = b":                  of(sieve.Same, of(sieve.Not, a), b),
		"not (a and b)":                of(sieve.Not, of(sieve.And, a, b)),
		"a = (not b)":                  of(sieve.Same, a, of(sieve.Not, b)),
		"a + b = c - d":                of(sieve.Same, of(sieve.Plus, a, b), of(sieve.Minus, c, d)),
		"a + b * c":                    of(sieve.Plus, a, of(sieve.Times, b, c)),
		"a * b + c":                    of(sieve.Plus, of(sieve.Times, a, b), c),
		"(a + b) * c":                  of(sieve.Times, of(sieve.Plus, a, b), c),
		"a - b + c - d":                of(sieve.Minus, of(sieve.Plus, of(sieve.Minus, a, b), c), d),
		"a / b * c / d":                of(sieve.Over, of(sieve.Times, of(sieve.Over, a, b), c), d),
		"a - (b + c)":                  of(sieve.Minus, a, of(sieve.Plus, b, c)),
		"-a * -b":                      of(sieve.Times, of(sieve.Negative, a), of(sieve.Negative, b)),
		"--a":                          of(sieve.Negative, of(sieve.Negative, a)),
		"-(-a)":                        of(sieve.Negative, of(sieve.Negative, a)),
		"-5 + 3":                       of(sieve.Plus, of(sieve.Negative, long(5)), long(3)),
		"-'x'":                         of(sieve.Negative, str("x")),
		"-true":                        of(sieve.Negative, yes()),
		"-(a = b)":                     of(sieve.Negative, of(sieve.Same, a, b)),
		"((((a))))":                    a,
		"a between b and c":            of(sieve.Between, a, b, c),
		"a not between b and c":        of(sieve.Not, of(sieve.Between, a, b, c)),
		"a between b and c and d":      of(sieve.And, of(sieve.Between, a, b, c), d),
		"a + 1 between -b and c * 2":   of(sieve.Between, of(sieve.Plus, a, long(1)), of(sieve.Negative, b), of(sieve.Times, c, long(2))),
		"not a not between b and c":    of(sieve.Not, of(sieve.Not, of(sieve.Between, a, b, c))),
		"a between (b and c) and d":    of(sieve.Between, a, of(sieve.And, b, c), d),
		"a in (1)":                     of(sieve.In, a, long(1)),
		"a in(1,'x',true,false,2.5)":   of(sieve.In, a, long(1), str("x"), yes(), no(), double(2.5)),
		"a not in (-1, -2.5)":          of(sieve.Not, of(sieve.In, a, long(-1), double(-2.5))),
		"a in (-0, -0.0)":              of(sieve.In, a, long(0), double(math.Copysign(0, -1))),
		"a - b in (1)":                 of(sieve.In, of(sieve.Minus, a, b), long(1)),
		"(a in (1)) in (true)":         of(sieve.In, of(sieve.In, a, long(1)), yes()),
		"a like 'x%'":                  fit(a, "x%", ""),
		"a not like 'x' escape '!'":    of(sieve.Not, fit(a, "x", "!")),
		"a like '' escape ''''":        fit(a, "", "'"),
		"a like '''''x' escape ''''":   fit(a, "''x", "'"),
		"a like 'é%' escape 'é'":       fit(a, "é%", "é"),
		"a like 'x' and b":             of(sieve.And, fit(a, "x", ""), b),
		"a like 'x' escape '!' and b":  of(sieve.And, fit(a, "x", "!"), b),
		"'x' like 'x'":                 fit(str("x"), "x", ""),
		"a + b like 'x'":               fit(of(sieve.Plus, a, b), "x", ""),
		"a is null":                    of(sieve.Nothing, a),
		"a is not null":                of(sieve.Not, of(sieve.Nothing, a)),
		"a + b is null":                of(sieve.Nothing, of(sieve.Plus, a, b)),
		"1 is null":                    of(sieve.Nothing, long(1)),
		"(a is null) is null":          of(sieve.Nothing, of(sieve.Nothing, a)),
		"(a is null) = true":           of(sieve.Same, of(sieve.Nothing, a), yes()),
		"true":                         yes(),
		"true and false":               of(sieve.And, yes(), no()),
		"(a = b) = (c = d)":            of(sieve.Same, of(sieve.Same, a, b), of(sieve.Same, c, d)),
		"(a = b) is null":              of(sieve.Nothing, of(sieve.Same, a, b)),
		"a is null or b not in ('x')":  of(sieve.Or, of(sieve.Nothing, a), of(sieve.Not, of(sieve.In, b, str("x")))),
		"not a is not null":            of(sieve.Not, of(sieve.Not, of(sieve.Nothing, a))),
		"a in (1) or not b like 'x' ":  of(sieve.Or, of(sieve.In, a, long(1)), of(sieve.Not, fit(b, "x", ""))),
		"a = 1 or a between 2 and -3 ": of(sieve.Or, of(sieve.Same, a, long(1)), of(sieve.Between, a, long(2), of(sieve.Negative, long(3)))),
	} {
		wantTerm(t, text, want)
	}
}

// P16.2: tokens that may not stand where they do, each with its place, and texts that end too early.
func TestParseOfMisplaced(t *testing.T) {
	for text, at := range map[string]int{
		"": 0, " ": 1, "\t\n": 2, "a or": 4, "a or ": 5, "a and": 5, "not": 3, "not ": 4, "a =": 3, "a = ": 4, "a +": 3, "a *  ": 5, "-": 1, "(": 1, "(a": 2, "(a ": 3, "((a)": 4, "a between": 9, "a between 1": 11, "a between 1 and": 15, "a not between 1 and ": 20, "a in": 4, "a in (": 6, "a in (1": 7, "a in (1,": 8, "a in (-": 7, "a in (1 , ": 10, "a like": 6, "a like 'x' escape": 17, "a like 'x' escape ": 18, "a is": 4, "a is not": 8, "a not": 5, "a not ": 6,
		"a b": 2, "a 1": 2, "a 'x'": 2, "a true": 2, "a (": 2, "a )": 2, ")": 0, "()": 1, "(a))": 3, "a = b = c": 6, "a < b < c": 6, "a = b is null": 6, "a is null is null": 10, "a between 1 and 2 between 3 and 4": 18, "a in (1) in (2)": 9, "a like 'x' like 'y'": 11, "a = b in (1)": 6, "a is null = true": 10, "a = not b": 4, "a + not b": 4, "- not a": 2, "-not a": 1, "a = = b": 4, "a and and b": 6, "a or or b": 5, "or a": 0, "and a": 0, "a and or b": 6, "not and": 4,
		"a between or": 10, "a between 1 or 2": 12, "a between 1, 2": 11, "a between (1 and 2)": 19, "a between 1 and 2 3": 18, "a between not 1 and 2": 10, "a between 1 and not 2": 16,
		"a in 1": 5, "a in b": 5, "a in ()": 6, "a in (b)": 6, "a in (1 2)": 8, "a in (1,)": 8, "a in (,1)": 6, "a in ((1))": 6, "a in (1+2)": 7, "a in (--1)": 7, "a in (- 'x')": 8, "a in (-true)": 7, "a in (-b)": 7, "a in (null)": 6, "a in (not true)": 6, "a in (1) 2": 9, "a in (1))": 8, "a in (+1)": 6, "a in [1]": 5,
		"a like b": 7, "a like 1": 7, "a like ('x')": 7, "a like -'x'": 7, "a like 'x' 'y'": 11, "a like 'x' escape b": 18, "a like 'x' escape 1": 18, "a like 'x' escape ('!')": 18, "a escape '!'": 2, "a like 'x' + 'y'": 11, "a like true": 7, "a like 'x' escape '!' escape '!'": 22, "a like null": 7,
		"a is b": 5, "a is 1": 5, "a is true": 5, "a is not true": 9, "a is not not null": 9, "a null": 2, "a is 'null'": 5, "a is \"null\"": 5, "a = null": 4, "null": 0, "null is null": 0,
		"a not b": 6, "a not = b": 6, "a not null": 6, "a not is null": 6, "a not not in (1)": 6, "a not and b": 6, "a not )": 6, "escape": 0, "in (1)": 0, "like 'x'": 0, "is null": 0, "between 1 and 2": 0, "* a": 0, "/": 0, "+1": 0, "a + + b": 4, "a * / b": 4, "a * +b": 4, "a - ": 4, "(a or b": 7, "(a, b)": 2, "a , b": 2, "= a": 0, "a (b)": 2, "true false": 5, "1 2": 2, "'x' 'y'": 4, "a in (1) and": 12, "not a b": 6,
	} {
		wantFault(t, text, at, api.ErrSieve)
	}
}

// P16.2: escapes and patterns.
func TestParseOfEscapes(t *testing.T) {
	for _, escape := range []string{"''", "'%'", "'_'", "'ab'", "'!!'", "'é!'", "'e\u0301'", "''''''", "'\xff'", "'\xc3'", "'%_'"} {
		wantFault(t, "a like 'x' escape "+escape, 18, api.ErrOperand)
		wantFault(t, "a like 'x!' escape "+escape+" ?", 19, api.ErrOperand)
		wantFault(t, "b = 1 and a not like  'x'  escape\n"+escape, 34, api.ErrOperand)
	}
	for pattern, open := range map[string]bool{"": false, "!": true, "!!": false, "!!!": true, "x!": true, "!x": false, "!%": false, "%!": true, "x!!": false, "!x!": true, "!!x": false} {
		text := "a like  '" + pattern + "' escape '!'"
		if open {
			wantFault(t, text, 8, api.ErrOperand)
			wantFault(t, text+" ?", 8, api.ErrOperand)
			wantFault(t, text+" b", 8, api.ErrOperand)
			wantTerm(t, "a like '"+pattern+"' escape '?'", fit(name("a"), pattern, "?"))
		} else {
			wantTerm(t, text, fit(name("a"), pattern, "!"))
		}
		wantTerm(t, "a like '"+pattern+"'", fit(name("a"), pattern, ""))
	}
	// It is known behind the escape's text, and so told behind what is wrong up to there.
	wantFault(t, "a like 'x!' escape", 18, api.ErrSieve)
	wantFault(t, "a like 'x!' escape !", 19, api.ErrSieve)
	wantFault(t, "a like 'x!' escape '!", 19, api.ErrSieve)
	wantFault(t, "a like 'x!' escape b", 19, api.ErrSieve)
	wantFault(t, "a like 'x!' ? '!'", 12, api.ErrSieve)
	wantFault(t, "a like '\xff!' escape", 7, api.ErrOperand)
	wantFault(t, "a like '\xff!' escape '!'", 7, api.ErrOperand)
	wantFault(t, "a like '\xff' escape '%'", 7, api.ErrOperand)
	wantFault(t, "a like 'xé' escape 'é'", 7, api.ErrOperand)
	wantFault(t, "a like '''' escape ''''", 7, api.ErrOperand)
}

// P16.2: the first fault counts, and what stands behind it is not looked at.
func TestParseOfFirstFaults(t *testing.T) {
	for _, x := range []struct {
		text string
		at   int
		e    api.Errno
	}{
		{"a b ?", 2, api.ErrSieve}, {"a ? 1e999", 2, api.ErrSieve}, {"1e999 ?", 0, api.ErrOperand}, {"1e999 1e999", 0, api.ErrOperand}, {"a 1e999", 2, api.ErrSieve}, {"a = '\xff' 'x", 4, api.ErrOperand}, {"a = 'x '\xff'", 8, api.ErrSieve},
		{"\"\" = 1e999", 0, api.ErrOperand}, {"a in (1e999, b)", 6, api.ErrOperand}, {"a in (b, 1e999)", 6, api.ErrSieve}, {"(1e999", 1, api.ErrOperand}, {"not 1e999 b", 4, api.ErrOperand}, {"a between 1e999", 10, api.ErrOperand}, {"a between b 1e999", 12, api.ErrSieve}, {"a = 'x''", 4, api.ErrSieve},
		{"a" + strings.Repeat("+a", 128) + " ?", 258, api.ErrSieve}, {"a" + strings.Repeat("+a", 128) + "+1e999", 258, api.ErrOperand}, {"a" + strings.Repeat("+a", 128) + "+", 258, api.ErrSieve},
		{"?" + strings.Repeat(" ", 4096), 0, api.ErrLong}, {strings.Repeat(" ", 4095) + "?", 4095, api.ErrSieve}, {"a" + strings.Repeat(" ", 4094) + "?", 4095, api.ErrSieve},
	} {
		wantFault(t, x.text, x.at, x.e)
	}
}

// P16.2: 4096 bytes are taken, 4097 are not; 256 terms are taken, 257 are not.
func TestParseOfLimits(t *testing.T) {
	a := name("a")
	wantTerm(t, strings.Repeat(" ", 4095)+"a", a)
	wantFault(t, strings.Repeat(" ", 4096)+"a", 0, api.ErrLong)
	wantFault(t, strings.Repeat(" ", 4096), 4096, api.ErrSieve)
	wantFault(t, strings.Repeat(" ", 4097), 0, api.ErrLong)
	wantFault(t, strings.Repeat("?", 100000), 0, api.ErrLong)
	wantTerm(t, strings.Repeat("(", 2047)+"a"+strings.Repeat(")", 2047), a)
	wantFault(t, strings.Repeat("(", 4096), 4096, api.ErrSieve)
	wantFault(t, strings.Repeat("-", 4096), 4096, api.ErrSieve)
	wantFault(t, strings.Repeat("-", 4095)+"a", 0, api.ErrTerms)
	wantFault(t, strings.Repeat("not ", 1024)[:4095], 4095, api.ErrSieve)
	wantTerm(t, strings.Repeat("not ", 255)+"a", chain(256))
	wantFault(t, strings.Repeat("not ", 256)+"a", 0, api.ErrTerms)
	wantTerm(t, "a"+strings.Repeat(" or a", 254), of(sieve.Or, slices.Repeat([]api.Term{a}, 255)...))
	wantFault(t, "a"+strings.Repeat(" or a", 255), 0, api.ErrTerms)
	wantTerm(t, "a in (1"+strings.Repeat(",1", 253)+")", of(sieve.In, append([]api.Term{a}, slices.Repeat([]api.Term{long(1)}, 254)...)...))
	wantFault(t, "a in (1"+strings.Repeat(",1", 254)+")", 0, api.ErrTerms)
	wantFault(t, "a"+strings.Repeat("+a", 128), 0, api.ErrTerms)
	wantTerm(t, "-"+"(a"+strings.Repeat("+a", 127)+")", of(sieve.Negative, leaning(127)))
	wantFault(t, "a"+strings.Repeat("+a", 2047), 0, api.ErrTerms)
}

// leaning is a sum of so many pluses, from the left.
func leaning(n int) api.Term {
	t := name("a")
	for range n {
		t = of(sieve.Plus, t, name("a"))
	}
	return t
}
