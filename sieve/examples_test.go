package sieve_test

import (
	"math"
	"testing"

	"longshore/api"
	"longshore/message"
	"longshore/sample"
	"longshore/sieve"
)

func TestErrorNumbers(t *testing.T) {
	for i, e := range []api.Errno{api.ErrSieve, api.ErrOperand, api.ErrTerms} {
		if int(e) != 160+i {
			t.Errorf("the error in place %d is %d, want %d", i, e, 160+i)
		}
	}
}

func TestKinds(t *testing.T) {
	for i, kind := range []int{sieve.Literal, sieve.Name, sieve.Not, sieve.And, sieve.Or, sieve.Same, sieve.Unlike, sieve.Less, sieve.LessOrSame, sieve.More, sieve.MoreOrSame, sieve.Between, sieve.In, sieve.Fit, sieve.Nothing, sieve.Plus, sieve.Minus, sieve.Times, sieve.Over, sieve.Negative} {
		if kind != i+1 {
			t.Errorf("%s is %d, want %d", kindNames[i+1], kind, i+1)
		}
	}
}

// The chapter's first table of examples.
func TestExamplesOfParse(t *testing.T) {
	a, b, c, x := name("a"), name("b"), name("c"), name("x")
	wantTerm(t, "a = 1 and b > 2.5 or not c", of(sieve.Or, of(sieve.And, of(sieve.Same, a, long(1)), of(sieve.More, b, double(2.5))), of(sieve.Not, c)))
	wantTerm(t, "a - b - 1", of(sieve.Minus, of(sieve.Minus, a, b), long(1)))
	wantTerm(t, "a-b", name("a-b"))
	wantTerm(t, "\"a b\"", name("a b"))
	wantTerm(t, "x NOT IN ('it''s', -1)", of(sieve.Not, of(sieve.In, x, str("it's"), long(-1))))
	wantTerm(t, "reply-to is not null", of(sieve.Not, of(sieve.Nothing, name("reply-to"))))
	wantTerm(t, "s like '10!%' escape '!'", fit(name("s"), "10!%", "!"))
	wantTerm(t, "-5", of(sieve.Negative, long(5)))
	wantTerm(t, "9223372036854775807", long(math.MaxInt64))
	wantFault(t, "9223372036854775808", 0, api.ErrOperand)
	wantFault(t, "", 0, api.ErrSieve)
	wantFault(t, "a =", 3, api.ErrSieve)
	wantFault(t, "a ? b", 2, api.ErrSieve)
	wantFault(t, "'x", 0, api.ErrSieve)
	wantFault(t, "(a", 2, api.ErrSieve)
	wantFault(t, "a b", 2, api.ErrSieve)
	wantFault(t, "a like 'x!' escape '!'", 7, api.ErrOperand)
	wantFault(t, "a like 'x' escape '%'", 18, api.ErrOperand)
	wantFault(t, "1e999", 0, api.ErrOperand)
}

// The chapter's second table of examples.
func TestExamplesOfPrint(t *testing.T) {
	a, b, c, d, e, x := name("a"), name("b"), name("c"), name("d"), name("e"), name("x")
	wantPrint(t, of(sieve.Or, a, of(sieve.And, b, c), of(sieve.Or, d, e)), "a or b and c or (d or e)")
	wantPrint(t, of(sieve.Not, of(sieve.Between, x, long(1), of(sieve.Plus, long(2), name("y")))), "not x between 1 and 2 + y")
	wantPrint(t, of(sieve.Same, of(sieve.Same, a, b), yes()), "(a = b) = true")
	wantPrint(t, of(sieve.Minus, a, of(sieve.Minus, b, c)), "a - (b - c)")
	wantPrint(t, of(sieve.Negative, of(sieve.Plus, a, b)), "-(a + b)")
	wantPrint(t, double(0.1), "1e-01")
	wantPrint(t, double(100), "1e+02")
	wantPrint(t, name("null"), "\"null\"")
	wantPrint(t, name("it\"s"), "\"it\"\"s\"")
	wantPrint(t, of(sieve.In, x, long(-5), str("a")), "x in (-5, 'a')")
}

// The chapter's third table of examples.
func TestExamplesOfEval(t *testing.T) {
	m := message.Blank()
	m.Header.Has, m.Header.Priority = true, 7
	m.App = sample.Pairs(words("colour"), words("red"), words("weight"), float(2.5), words("big"), integer(math.MaxInt64))
	for _, x := range []struct {
		text string
		want api.Value
	}{
		{"priority > 4 and colour = 'red'", right},
		{"size > 3", unknown}, {"not size > 3", unknown}, {"size is null", right},
		{"size > 3 or priority = 7", right}, {"size > 3 and priority = 1", wrong},
		{"colour > 5", unknown}, {"colour like 'r_d'", right}, {"weight between 2 and 3", right},
		{"big + 1 > big", right}, {"big + 1", float(9.223372036854775808e+18)}, {"7 / 2", float(3.5)}, {"6 / 2", integer(3)}, {"priority / 0", unknown},
		{"big = big * 1.0", wrong}, {"big * 1.0", float(9223372036854775808)},
	} {
		wantSays(t, x.text, m, x.want)
	}
}
