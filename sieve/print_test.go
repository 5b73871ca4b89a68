package sieve_test

import (
	"math"
	"math/rand"
	"slices"
	"strings"
	"testing"

	"longshore/api"
	"longshore/sieve"
)

// P16.3: each kind, as the grammar has it.
func TestPrintOfKinds(t *testing.T) {
	a, b, c := name("a"), name("b"), name("c")
	for _, x := range []struct {
		term api.Term
		want string
	}{
		{yes(), "true"}, {no(), "false"}, {long(0), "0"}, {long(5), "5"}, {long(math.MaxInt64), "9223372036854775807"}, {str(""), "''"}, {str("it's"), "'it''s'"}, {str("''"), "''''''"}, {str("a\n\"é\x00"), "'a\n\"é\x00'"}, {a, "a"},
		{of(sieve.Not, a), "not a"}, {of(sieve.Not, of(sieve.Not, a)), "not not a"}, {of(sieve.And, a, b), "a and b"}, {of(sieve.And, a, b, c), "a and b and c"}, {of(sieve.Or, a, b), "a or b"}, {of(sieve.Or, a, b, c, a), "a or b or c or a"},
		{of(sieve.Same, a, b), "a = b"}, {of(sieve.Unlike, a, b), "a <> b"}, {of(sieve.Less, a, b), "a < b"}, {of(sieve.LessOrSame, a, b), "a <= b"}, {of(sieve.More, a, b), "a > b"}, {of(sieve.MoreOrSame, a, b), "a >= b"},
		{of(sieve.Between, a, b, c), "a between b and c"}, {of(sieve.Not, of(sieve.Between, a, b, c)), "not a between b and c"},
		{of(sieve.In, a, long(1)), "a in (1)"}, {of(sieve.In, a, long(-1), double(-2.5), double(math.Copysign(0, -1)), str("-"), yes(), no(), long(math.MinInt64)), "a in (-1, -2.5e+00, -0e+00, '-', true, false, -9223372036854775808)"}, {of(sieve.Not, of(sieve.In, a, long(1))), "not a in (1)"},
		{fit(a, "", ""), "a like ''"}, {fit(a, "x%'", ""), "a like 'x%'''"}, {fit(a, "x", "!"), "a like 'x' escape '!'"}, {fit(a, "", "'"), "a like '' escape ''''"}, {of(sieve.Not, fit(a, "x", "")), "not a like 'x'"},
		{of(sieve.Nothing, a), "a is null"}, {of(sieve.Not, of(sieve.Nothing, a)), "not a is null"},
		{of(sieve.Plus, a, b), "a + b"}, {of(sieve.Minus, a, b), "a - b"}, {of(sieve.Times, a, b), "a * b"}, {of(sieve.Over, a, b), "a / b"},
		{of(sieve.Negative, a), "-a"}, {of(sieve.Negative, long(5)), "-5"}, {of(sieve.Negative, of(sieve.Negative, double(5))), "--5e+00"}, {of(sieve.Minus, a, of(sieve.Negative, b)), "a - -b"}, {of(sieve.Negative, str("x")), "-'x'"}, {of(sieve.Negative, name("a b")), "-\"a b\""}, {of(sieve.Negative, of(sieve.Negative, of(sieve.Minus, a, b))), "--(a - b)"},
		{of(sieve.Not, of(sieve.And, of(sieve.Or, a, b), c)), "not ((a or b) and c)"},
		{of(sieve.Times, of(sieve.Plus, of(sieve.Times, a, of(sieve.Plus, b, c)), c), b), "(a * (b + c) + c) * b"},
		// What stands in a text is no token.
		{of(sieve.And, str("("), str(")"), str(","), name("("), name(")"), name(",")), "'(' and ')' and ',' and \"(\" and \")\" and \",\""},
	} {
		wantPrint(t, x.term, x.want)
	}
}

// P16.3: each kind as a Kid of each kind, in each place: brackets where the chapter has them, and only where without them another term is read.
func TestPrintOfBrackets(t *testing.T) {
	for kind := sieve.Not; kind <= sieve.Negative; kind++ {
		for kid := sieve.Literal; kid <= sieve.Negative; kid++ {
			term := good(kind)
			for i := range term.Kids {
				if kind == sieve.In && i > 0 {
					continue
				}
				term = good(kind)
				term.Kids[i] = good(kid)
				wantPrint(t, term, modelPrint(term))
				wantBracketsNeeded(t, term)
			}
		}
	}
}

// wantBracketsNeeded takes away each pair of brackets that Print wrote, and wants another reading.
func wantBracketsNeeded(t *testing.T, term api.Term) {
	t.Helper()
	text, _ := sieve.Print(term)
	for open := range len(text) {
		if text[open] != '(' || strings.HasSuffix(text[:open], "in ") {
			continue
		}
		shut := open + 1
		for depth := 1; ; shut++ {
			depth += strings.Count(text[shut:shut+1], "(") - strings.Count(text[shut:shut+1], ")")
			if depth == 0 {
				break
			}
		}
		bare := text[:open] + " " + text[open+1:shut] + " " + text[shut+1:]
		if got, _, e := modelParse(bare); e == api.OK && told(got) == told(term) {
			t.Errorf("Print(%s) = %q: the brackets at %d are not needed", told(term), text, open)
		}
	}
}

// P16.3: any terms without brackets in their texts have no brackets that are not needed.
func TestPrintHasNoMoreBrackets(t *testing.T) {
	c := chances(165, 0)
	for range 2000 {
		term := c.term(3)
		if s := modelPrint(term); !strings.ContainsAny(s, "'\"") && len(s) <= 4096 {
			wantBracketsNeeded(t, term)
		}
	}
}

// P16.3: Doubles with as few digits as are read as them.
func TestPrintOfDoubles(t *testing.T) {
	for want, f := range map[string]float64{
		"0e+00": 0, "1e+00": 1, "5e+00": 5, "1e+01": 10, "1.5e+00": 1.5, "1.2e+01": 12, "1e-01": 0.1, "3.0000000000000004e-01": 0.1 + 0.2*math.Nextafter(1, 2), "1e+21": 1e21, "1e+22": 1e22, "1e+23": 1e23, "1e+100": 1e100, "1e-100": 1e-100, "3.333333333333333e-01": 1.0 / 3, "6.666666666666666e-01": 2.0 / 3,
		"5e-324": math.SmallestNonzeroFloat64, "1e-323": 2 * math.SmallestNonzeroFloat64, "1.7976931348623157e+308": math.MaxFloat64, "2.2250738585072014e-308": 0x1p-1022, "2.225073858507201e-308": 0x1p-1022 - 0x1p-1074, "9.007199254740992e+15": 1 << 53, "9.007199254740994e+15": 1<<53 + 2, "9.223372036854776e+18": 1 << 63, "1.8446744073709552e+19": 1 << 64, "1.23456789e+05": 123456.789, "9.5367431640625e-07": 0x1p-20, "9.999999999999997e+22": math.Nextafter(1e23, 0), "1.0000000000000001e+23": math.Nextafter(1e23, 1e24), "1.125899906842624e+15": 1 << 50, "1.1259e+04": 11259,
	} {
		wantPrint(t, double(f), want)
		wantPrint(t, of(sieve.Negative, double(f)), "-"+want)
		wantPrint(t, of(sieve.In, long(1), double(-f), double(f)), "1 in (-"+want+", "+want+")")
	}
	r := rand.New(rand.NewSource(166))
	var all []float64
	for i := range 2046 {
		all = append(all, math.Float64frombits(uint64(i)<<52), math.Float64frombits(uint64(i)<<52|r.Uint64()>>12), math.Float64frombits(uint64(i+1)<<52-1))
	}
	for i := range 700 {
		all = append(all, math.Float64frombits(r.Uint64()>>1), float64(i)/100, 1e15*(1+float64(i)), float64(r.Int63()), math.Float64frombits(uint64(i)), math.Float64frombits(r.Uint64()>>12>>r.Intn(50)), float64(1<<50+i)+0.25)
	}
	for _, f := range all {
		if !math.IsInf(f, 0) && !math.IsNaN(f) {
			wantPrint(t, double(f), fewest(f))
		}
	}
}

// P16.3: names that are read as words, and such as are quoted.
func TestPrintOfNames(t *testing.T) {
	for _, s := range []string{"a", "Z", "_", "a.b", "a.", "a-b", "a-_", "a-1", "a1", "_-_", "ands", "nott", "is-null", "e1", strings.Repeat("n", 64)} {
		wantPrint(t, name(s), s)
		wantPrint(t, of(sieve.Minus, name(s), of(sieve.Negative, name(s))), s+" - -"+s)
	}
	for _, s := range []string{"1", "1a", ".a", "-", "-a", "a-", "a-.b", "a--b", "a b", " a", "a ", "a\n", "é", "aé", "'", "a'b", "=", "(", "a(", "\x00", "\u212a", "li\u212ae", "a,", "*", "true", "TRUE", "and", "or", "not", "between", "in", "like", "escape", "is", "null", "false", "NULL", "Null", "nOT", "FALSE", strings.Repeat("é", 32)} {
		wantPrint(t, name(s), "\""+s+"\"")
		wantPrint(t, of(sieve.Same, name(s), name("a")), "\""+s+"\" = a")
	}
	wantPrint(t, name("\""), "\"\"\"\"")
	wantPrint(t, name("a\"\"b"), "\"a\"\"\"\"b\"")
	wantPrint(t, name(strings.Repeat("\"", 64)), strings.Repeat("\"", 130))
}

// P16.3: 4096 bytes are written, 4097 are not.
func TestPrintOfLimits(t *testing.T) {
	wantLong := func(term api.Term) {
		t.Helper()
		if e := sieve.Check(term); e != api.OK {
			t.Errorf("Check: %d", e)
		}
		if s, e := sieve.Print(term); s != "" || e != api.ErrLong {
			t.Errorf("Print of a long term: %q, %d", brief(s), e)
		}
	}
	x := func(n int) string { return strings.Repeat("x", n) }
	wantPrint(t, str(x(4094)), "'"+x(4094)+"'")
	wantLong(str(x(4095)))
	wantLong(str(x(100000)))
	wantPrint(t, str(strings.Repeat("'", 2047)), strings.Repeat("'", 4096))
	wantLong(str(strings.Repeat("'", 2048)))
	wantPrint(t, str(strings.Repeat("'", 2046)+"x"), strings.Repeat("'", 4093)+"x'")
	wantLong(str(strings.Repeat("'", 2046) + "xxx"))
	wantPrint(t, fit(name("a"), x(4087), ""), "a like '"+x(4087)+"'")
	wantLong(fit(name("a"), x(4088), ""))
	wantPrint(t, fit(name("a"), x(4076), "!"), "a like '"+x(4076)+"' escape '!'")
	wantLong(fit(name("a"), x(4077), "!"))
	wantPrint(t, of(sieve.Nothing, str(x(4086))), "'"+x(4086)+"' is null")
	wantLong(of(sieve.Nothing, str(x(4087))))
	wantPrint(t, of(sieve.In, str(x(4086)), long(-5)), "'"+x(4086)+"' in (-5)")
	wantPrint(t, of(sieve.In, str(x(4087)), long(5)), "'"+x(4087)+"' in (5)")
	wantLong(of(sieve.In, str(x(4087)), long(-5)))
	wantPrint(t, of(sieve.Negative, of(sieve.Plus, str(x(4087)), long(1))), "-('"+x(4087)+"' + 1)")
	wantLong(of(sieve.Negative, of(sieve.Plus, str(x(4088)), long(1))))
	wantLong(of(sieve.And, slices.Repeat([]api.Term{str(x(4000))}, 255)...))
	// Check's error comes first.
	bad := of(sieve.And, str(x(5000)), name(""))
	if s, e := sieve.Print(bad); s != "" || e != api.ErrOperand {
		t.Errorf("Print of what may not be: %q, %d", brief(s), e)
	}
}

// P16.4: Parse of what Print wrote is the term; what Parse takes Check takes, and Print of it is read as the same term.
func TestBackAgain(t *testing.T) {
	c := chances(167, 0)
	came := 0
	for range 6000 {
		term := c.term(1 + c.Intn(5))
		s, e := sieve.Print(term)
		if terms, _ := flat(term, false); len(terms) > 256 || e == api.ErrLong {
			continue
		}
		if e != api.OK {
			t.Fatalf("Print(%s): %d", told(term), e)
		}
		came++
		wantTerm(t, s, term)
		text := c.spelled(term)
		if len(text) > 4096 {
			continue
		}
		got, _, e := sieve.Parse(text)
		if e != api.OK || sieve.Check(got) != api.OK {
			t.Fatalf("Parse(%q): %d", text, e)
		}
		again, e := sieve.Print(got)
		if e != api.OK || again != s {
			t.Fatalf("Print of what was read of %q: %q, %d, want %q", text, again, e, s)
		}
	}
	if came < 3000 {
		t.Errorf("%d terms were written", came)
	}
}

// P16.4: what Parse takes may be too long when it is written with its blanks.
func TestPrintMayBeLonger(t *testing.T) {
	term := leaning(126)
	for i := range term.Kids {
		term.Kids[i] = of(sieve.Negative, term.Kids[i])
	}
	wantTerm(t, "-(a"+strings.Repeat("+a", 125)+")+-a", term)
	wantPrint(t, term, "-(a"+strings.Repeat(" + a", 125)+") + -a")
	text := "'" + strings.Repeat("x", 4092) + "'=1"
	term = of(sieve.Same, str(strings.Repeat("x", 4092)), long(1))
	wantTerm(t, text, term)
	if s, e := sieve.Print(term); s != "" || e != api.ErrLong {
		t.Errorf("%q, %d", brief(s), e)
	}
}
