package sieve_test

import (
	"math"
	"slices"
	"strings"
	"testing"

	"longshore/api"
	"longshore/sample"
	"longshore/sieve"
)

// good is a term of each kind that may be.
func good(kind int) api.Term {
	a, b, c := name("a"), long(5), str("c")
	switch kind {
	case sieve.Literal:
		return yes()
	case sieve.Name:
		return a
	case sieve.Not, sieve.Nothing, sieve.Negative:
		return of(kind, a)
	case sieve.Between:
		return of(kind, a, b, c)
	case sieve.Fit:
		return fit(a, "x%", "!")
	default:
		return of(kind, a, b)
	}
}

// P16.1: each kind with what it has, and with a field that it does not have.
func TestCheckOfFields(t *testing.T) {
	for kind := sieve.Literal; kind <= sieve.Negative; kind++ {
		wantCheck(t, good(kind), api.OK)
		hasText, hasValue := kind == sieve.Name || kind == sieve.Fit, kind == sieve.Literal || kind == sieve.Fit
		for _, s := range []string{"a", "\x00", "\xff", strings.Repeat("n", 65)} {
			term := good(kind)
			term.Text = s
			if !hasText {
				wantCheck(t, term, api.ErrSieve)
			}
		}
		for _, v := range []api.Value{right, wrong, integer(0), words(""), sample.List(), sample.Num(api.Null, 1), sample.Text(api.Null, "a"), {Elem: 1}, {List: []api.Value{{}}}, sample.Num(-1, 0)} {
			term := good(kind)
			term.Value = v
			if !hasValue {
				wantCheck(t, term, api.ErrSieve)
			}
		}
		// nil and an empty list are the same.
		term := good(kind)
		if len(term.Kids) == 0 {
			term.Kids = []api.Term{}
		}
		term.Value.List = []api.Value{}
		wantCheck(t, term, api.OK)
	}
	for _, kind := range []int{math.MinInt, -1, 0, 21, 22, 100, math.MaxInt} {
		wantCheck(t, of(kind), api.ErrSieve)
		wantCheck(t, of(kind, name("a"), name("b")), api.ErrSieve)
		wantCheck(t, of(sieve.Not, of(kind)), api.ErrSieve)
	}
	wantCheck(t, api.Term{}, api.ErrSieve)
}

// P16.1: as many Kids as are asked for, fewer and more.
func TestCheckOfCounts(t *testing.T) {
	for kind := sieve.Literal; kind <= sieve.Negative; kind++ {
		for n := range 6 {
			term := good(kind)
			term.Kids = slices.Repeat([]api.Term{long(1)}, n)
			want := api.ErrSieve
			if count := kidCounts[kind]; count == n || count == -2 && n >= 2 {
				want = api.OK
			}
			wantCheck(t, term, want)
		}
	}
}

// P16.1: 256 terms are taken, 257 are not, however they stand; and then no other error counts.
func TestCheckOfTerms(t *testing.T) {
	for _, of := range []func(int) api.Term{chain, wide} {
		wantCheck(t, of(255), api.OK)
		wantCheck(t, of(256), api.OK)
		wantCheck(t, of(257), api.ErrTerms)
		wantCheck(t, of(300), api.ErrTerms)
		wantCheck(t, of(100000), api.ErrTerms)
	}
	wantCheck(t, bushy(255), api.OK)
	wantCheck(t, of(sieve.Not, bushy(255)), api.OK)
	wantCheck(t, bushy(257), api.ErrTerms)
	in := of(sieve.In, slices.Repeat([]api.Term{long(1)}, 255)...)
	wantCheck(t, in, api.OK)
	wantCheck(t, of(sieve.Not, in), api.ErrTerms)
	for _, term := range []api.Term{of(0, wide(256)), name(""), of(sieve.Same, slices.Repeat([]api.Term{{}}, 256)...), of(sieve.Literal, chain(256))} {
		if term.Kind == sieve.Name {
			term.Kids = []api.Term{wide(256)}
		}
		wantCheck(t, term, api.ErrTerms)
	}
	wantCheck(t, of(0, wide(255)), api.ErrSieve)
	bad := wide(257)
	bad.Kids[0] = name("")
	wantCheck(t, bad, api.ErrTerms)
	bad = wide(256)
	bad.Kids[254] = name("")
	wantCheck(t, bad, api.ErrOperand)
}

// R1: also of terms that are one in another many times, or without end.
func TestCheckEnds(t *testing.T) {
	term := name("a")
	for range 60 {
		term = of(sieve.And, term, term)
	}
	if e := sieve.Check(term); e != api.ErrTerms {
		t.Errorf("2^60 terms: %d", e)
	}
	round := []api.Term{{Kind: sieve.Not}}
	round[0].Kids = round
	if e := sieve.Check(round[0]); e != api.ErrTerms {
		t.Errorf("terms without end: %d", e)
	}
	if s, e := sieve.Print(round[0]); s != "" || e != api.ErrTerms {
		t.Errorf("Print of terms without end: %q, %d", s, e)
	}
	v := []api.Value{{Kind: api.List}}
	v[0].List = v
	if e := sieve.Check(lit(v[0])); e != api.ErrOperand {
		t.Errorf("a Literal without end: %d", e)
	}
	if e := sieve.Check(api.Term{Kind: sieve.Name, Text: "a", Value: v[0]}); e != api.ErrSieve {
		t.Errorf("a Name with a Value without end: %d", e)
	}
}

// P16.1: Kids of an In.
func TestCheckOfIn(t *testing.T) {
	for kind := sieve.Literal; kind <= sieve.Negative; kind++ {
		wantCheck(t, of(sieve.In, good(kind), long(1)), api.OK)
		want := api.ErrSieve
		if kind == sieve.Literal {
			want = api.OK
		}
		wantCheck(t, of(sieve.In, name("a"), good(kind)), want)
		wantCheck(t, of(sieve.In, name("a"), long(1), good(kind)), want)
		wantCheck(t, of(sieve.In, name("a"), good(kind), long(1)), want)
	}
	wantCheck(t, of(sieve.In, name("a"), api.Term{}), api.ErrSieve)
	// That a Kid is no Literal is told ahead of what is wrong with those ahead of it, what is wrong with a Literal's fields behind the first one.
	wantCheck(t, of(sieve.In, name(""), name("b")), api.ErrSieve)
	wantCheck(t, of(sieve.In, long(1), lit(api.Value{}), name("b")), api.ErrSieve)
	wantCheck(t, of(sieve.In, name(""), api.Term{Kind: sieve.Literal, Text: "a"}), api.ErrOperand)
	wantCheck(t, of(sieve.In, name("a"), lit(api.Value{}), api.Term{Kind: sieve.Literal, Text: "a"}), api.ErrOperand)
	wantCheck(t, of(sieve.In, name("a"), api.Term{Kind: sieve.Literal, Text: "a"}, lit(api.Value{})), api.ErrSieve)
	// Only those behind the first one are listed.
	wantCheck(t, of(sieve.In, long(-1), long(-1)), api.ErrOperand)
	wantCheck(t, of(sieve.In, long(1), long(-1), double(-1)), api.OK)
	wantCheck(t, of(sieve.In, of(sieve.Same, long(-1), long(1)), long(-1)), api.ErrOperand)
	wantCheck(t, of(sieve.Not, of(sieve.In, long(1), long(-1))), api.OK)
	for kind := sieve.Not; kind <= sieve.Negative; kind++ {
		term := good(kind)
		if kind != sieve.In && len(term.Kids) > 1 {
			term.Kids[1] = long(-1)
			wantCheck(t, term, api.ErrOperand)
		}
	}
}

// P16.1: Literals of each kind of Value, listed and not.
func TestCheckOfLiterals(t *testing.T) {
	wantBoth := func(v api.Value, alone, listed api.Errno) {
		t.Helper()
		wantCheck(t, lit(v), alone)
		wantCheck(t, of(sieve.Not, lit(v)), alone)
		wantCheck(t, of(sieve.In, name("a"), lit(v)), listed)
		wantCheck(t, of(sieve.In, name("a"), long(1), lit(v)), listed)
	}
	for _, v := range []api.Value{right, wrong, integer(0), integer(1), integer(math.MaxInt64), float(0), float(1), float(0.1), float(math.MaxFloat64), float(math.SmallestNonzeroFloat64), words(""), words("a"), words("é\x00"), words(strings.Repeat("a", 100000))} {
		wantBoth(v, api.OK, api.OK)
	}
	for _, v := range []api.Value{integer(-1), integer(math.MinInt64), float(math.Copysign(0, -1)), float(-1), float(-math.MaxFloat64), float(-math.SmallestNonzeroFloat64)} {
		wantBoth(v, api.ErrOperand, api.OK)
	}
	for _, v := range []api.Value{float(math.Inf(1)), float(math.Inf(-1)), float(math.NaN()), sample.Num(api.Double, 0x7ff0000000000001), sample.Num(api.Double, 0xfff8000000000000), sample.Num(api.Double, 1<<64-1), sample.Num(api.Bool, 2), words("\xff"), words("a\xc3"), {Kind: api.Bool, Text: "a"}, {Kind: api.Long, Text: "a"}, {Kind: api.Double, Elem: 1}, {Kind: api.Double, Num: 1, Text: "a"}, {Kind: api.String, Num: 1}, {Kind: api.String, Text: "a", List: []api.Value{{}}}} {
		wantBoth(v, api.ErrOperand, api.ErrOperand)
	}
	for kind := -1; kind <= 26; kind++ {
		if !slices.Contains([]int{api.Bool, api.Long, api.Double, api.String}, kind) {
			wantBoth(sample.Num(kind, 0), api.ErrOperand, api.ErrOperand)
			wantBoth(sample.Num(kind, 1), api.ErrOperand, api.ErrOperand)
			wantBoth(sample.Text(kind, "a"), api.ErrOperand, api.ErrOperand)
		}
	}
	wantBoth(sample.Text(api.Uuid, "0123456789abcdef"), api.ErrOperand, api.ErrOperand)
	wantBoth(sample.List(right), api.ErrOperand, api.ErrOperand)
}

// P16.1: names.
func TestCheckOfNames(t *testing.T) {
	for _, n := range []int{1, 2, 63, 64} {
		wantCheck(t, name(strings.Repeat("n", n)), api.OK)
	}
	for _, s := range []string{" ", "\x00", "é", strings.Repeat("é", 32), strings.Repeat("\U0001f600", 16), "and", "\"", "'", "1"} {
		wantCheck(t, name(s), api.OK)
	}
	for _, s := range []string{"", strings.Repeat("n", 65), strings.Repeat("é", 33), strings.Repeat("n", 100000), "\xff", "\x80", "a\xc3", "\xed\xa0\x80", "a\xff" + strings.Repeat("n", 62)} {
		wantCheck(t, name(s), api.ErrOperand)
	}
}

// P16.1: patterns and escapes.
func TestCheckOfFits(t *testing.T) {
	for _, pattern := range []string{"", "%", "_", "a", "!", "a!", "é", "\x00", "'", strings.Repeat("a", 5000)} {
		wantCheck(t, fit(name("a"), pattern, ""), api.OK)
	}
	for _, pattern := range []string{"\xff", "a\x80", "é\xc3"} {
		wantCheck(t, fit(name("a"), pattern, ""), api.ErrOperand)
		wantCheck(t, fit(name("a"), pattern, "!"), api.ErrOperand)
	}
	for _, escape := range []string{"!", "a", "\x00", "'", "\"", "é", "\u20ac", "\U0010ffff", "\\", " ", "\ufffd", "\x7f"} {
		for pattern, want := range map[string]api.Errno{"": api.OK, "xE": api.ErrOperand, "E": api.ErrOperand, "EE": api.OK, "EEE": api.ErrOperand, "xEE": api.OK, "Ex": api.OK, "E%": api.OK, "%E": api.ErrOperand, "E_E": api.ErrOperand, "ExE": api.ErrOperand, "EEx": api.OK, "EEEE": api.OK, "E%EE": api.OK} {
			wantCheck(t, fit(name("a"), strings.ReplaceAll(pattern, "E", escape), escape), want)
		}
	}
	for _, v := range []api.Value{words(""), words("%"), words("_"), words("ab"), words("!!"), words("é!"), words("e\u0301"), words("\xff"), words("\xc3"), words("\x80"), words("\xed\xa0\x80"), sample.Text(api.Symbol, "!"), sample.Text(api.Binary, "!"), sample.Num(api.Char, '!'), right, sample.Num(api.Null, 1), sample.Text(api.Null, "!"), {Kind: api.String, Text: "!", Num: 1}, {Kind: api.String, Text: "!", Elem: 1}, {Kind: api.String, Text: "!", List: []api.Value{{}}}, words(strings.Repeat("!", 5000))} {
		term := fit(name("a"), "x", "")
		term.Value = v
		wantCheck(t, term, api.ErrOperand)
	}
	wantCheck(t, fit(name("a"), "x!", "?"), api.OK)
	// In the pattern é has the byte \xc3, but that is no sign of it.
	wantCheck(t, fit(name("a"), "xé", "\u00c3"), api.OK)
}

// P16.1: the first error counts: of one term ErrSieve ahead of ErrOperand, a term ahead of its Kids, these in order, each with all that stands in it.
func TestCheckOfOrders(t *testing.T) {
	sieveTerm, operand := of(21), name("")
	for _, x := range []struct {
		term api.Term
		e    api.Errno
	}{
		{api.Term{Kind: sieve.Name, Kids: []api.Term{operand}}, api.ErrSieve},
		{api.Term{Kind: sieve.Literal, Text: "a"}, api.ErrSieve},
		{of(sieve.Not, operand, operand), api.ErrSieve},
		{of(sieve.And, operand, sieveTerm), api.ErrOperand},
		{of(sieve.And, sieveTerm, operand), api.ErrSieve},
		{of(sieve.And, of(sieve.Not, of(sieve.Not, operand)), sieveTerm), api.ErrOperand},
		{of(sieve.And, of(sieve.Not, of(sieve.Not, sieveTerm)), operand), api.ErrSieve},
		{of(sieve.And, of(sieve.Not, name("a")), operand, sieveTerm), api.ErrOperand},
		{fit(sieveTerm, "\xff", ""), api.ErrOperand},
		{fit(sieveTerm, "a!", "!"), api.ErrOperand},
		{fit(sieveTerm, "a", "!"), api.ErrSieve},
		{fit(operand, "a", "!"), api.ErrOperand},
		{of(sieve.Not, fit(sieveTerm, "a", "%")), api.ErrOperand},
		{api.Term{Kind: sieve.Fit, Text: "\xff"}, api.ErrSieve},
	} {
		wantCheck(t, x.term, x.e)
	}
}
