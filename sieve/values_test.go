package sieve_test

import (
	"fmt"
	"math"
	"strconv"
	"strings"
	"testing"

	"longshore/api"
	"longshore/message"
	"longshore/sample"
	"longshore/sieve"
)

// kindNames are the kinds of terms by their numbers, as the chapter names them.
var kindNames = []string{"", "Literal", "Name", "Not", "And", "Or", "Same", "Unlike", "Less", "LessOrSame", "More", "MoreOrSame", "Between", "In", "Fit", "Nothing", "Plus", "Minus", "Times", "Over", "Negative"}

func of(kind int, kids ...api.Term) api.Term { return api.Term{Kind: kind, Kids: kids} }

func lit(v api.Value) api.Term { return api.Term{Kind: sieve.Literal, Value: v} }

func long(n int64) api.Term { return lit(sample.Signed(api.Long, n)) }

func double(f float64) api.Term { return lit(sample.Num(api.Double, math.Float64bits(f))) }

func str(s string) api.Term { return lit(sample.Text(api.String, s)) }

func yes() api.Term { return lit(sample.Num(api.Bool, 1)) }

func no() api.Term { return lit(sample.Num(api.Bool, 0)) }

func name(s string) api.Term { return api.Term{Kind: sieve.Name, Text: s} }

// fit is a Fit; of the escape "" there is none.
func fit(kid api.Term, pattern, escape string) api.Term {
	t := api.Term{Kind: sieve.Fit, Text: pattern, Kids: []api.Term{kid}}
	if escape != "" {
		t.Value = sample.Text(api.String, escape)
	}
	return t
}

// told is a term as text, all that stands in it.
func told(t api.Term) string {
	var parts []string
	if t.Text != "" {
		parts = append(parts, strconv.Quote(t.Text))
	}
	if !sample.Same(t.Value, api.Value{}) {
		parts = append(parts, sample.Written(t.Value))
	}
	for _, kid := range t.Kids {
		parts = append(parts, told(kid))
	}
	kind := strconv.Itoa(t.Kind)
	if t.Kind > 0 && t.Kind < len(kindNames) {
		kind = kindNames[t.Kind]
	}
	return kind + "(" + strings.Join(parts, ", ") + ")"
}

func brief(s string) string {
	if len(s) > 300 {
		return s[:200] + " .. " + s[len(s)-90:]
	}
	return s
}

// wantTerm wants a text to be read as a term that Check takes.
func wantTerm(t *testing.T, text string, want api.Term) {
	t.Helper()
	got, at, e := sieve.Parse(text)
	if e != api.OK || at != 0 || told(got) != told(want) {
		t.Errorf("Parse(%q) = %s, %d, %d, want %s", brief(text), brief(told(got)), at, e, brief(told(want)))
	}
	if e := sieve.Check(got); e != api.OK {
		t.Errorf("Check of what Parse read of %q: %d", brief(text), e)
	}
}

// wantFault wants a text to be refused, with a place and nothing else.
func wantFault(t *testing.T, text string, at int, e api.Errno) {
	t.Helper()
	got, place, err := sieve.Parse(text)
	if err != e || place != at || told(got) != told(api.Term{}) {
		t.Errorf("Parse(%q) = %s, %d, %d, want nothing, %d, %d", brief(text), brief(told(got)), place, err, at, e)
	}
}

// wantPrint wants a term to be written as a text that is read as the term.
func wantPrint(t *testing.T, term api.Term, want string) {
	t.Helper()
	got, e := sieve.Print(term)
	if e != api.OK || got != want {
		t.Errorf("Print(%s) = %q, %d, want %q", brief(told(term)), brief(got), e, brief(want))
		return
	}
	wantTerm(t, got, term)
}

// wantCheck wants Check's answer, and of an error that Print and Eval refuse the term, too.
func wantCheck(t *testing.T, term api.Term, e api.Errno) {
	t.Helper()
	if got := sieve.Check(term); got != e {
		t.Errorf("Check(%s) = %d, want %d", brief(told(term)), got, e)
	}
	text, err := sieve.Print(term)
	switch {
	case e != api.OK && (err != e || text != ""):
		t.Errorf("Print(%s) = %q, %d, want nothing, %d", brief(told(term)), brief(text), err, e)
	case e == api.OK && err != api.OK && err != api.ErrLong:
		t.Errorf("Print(%s) = %q, %d", brief(told(term)), brief(text), err)
	}
	if e != api.OK {
		v := sieve.Eval(term, message.Blank())
		if !sample.Same(v, api.Value{}) || sieve.Fits(term, message.Blank()) {
			t.Errorf("Eval(%s) = %s", brief(told(term)), sample.Written(v))
		}
	}
}

// with is a message that has these application properties beside those of a blank one.
func with(pairs map[string]api.Value) api.Message {
	m := message.Blank()
	m.App = sample.Pairs()
	for key, v := range pairs {
		m.App.List = append(m.App.List, sample.Text(api.String, key), v)
	}
	return m
}

// What a filter may say.
var (
	unknown = api.Value{}
	right   = sample.Num(api.Bool, 1)
	wrong   = sample.Num(api.Bool, 0)
)

func integer(n int64) api.Value { return sample.Signed(api.Long, n) }

func float(f float64) api.Value { return sample.Num(api.Double, math.Float64bits(f)) }

func words(s string) api.Value { return sample.Text(api.String, s) }

// wantSaid wants what a term says of a message, from Eval and from Fits.
func wantSaid(t *testing.T, term api.Term, m api.Message, want api.Value) {
	t.Helper()
	if got := sieve.Eval(term, m); !sample.Same(got, want) {
		t.Errorf("Eval(%s) = %s, want %s", brief(told(term)), brief(sample.Written(got)), brief(sample.Written(want)))
	}
	if got := sieve.Fits(term, m); got != sample.Same(want, right) {
		t.Errorf("Fits(%s) = %v, Eval is %s", brief(told(term)), got, brief(sample.Written(want)))
	}
}

// wantSays wants what a filter says, by its text.
func wantSays(t *testing.T, text string, m api.Message, want api.Value) {
	t.Helper()
	term, at, e := sieve.Parse(text)
	if e != api.OK {
		t.Errorf("Parse(%q): %d, %d", text, at, e)
		return
	}
	wantSaid(t, term, m, want)
}

// chain is a term of so many terms: Nots in one another, and a name.
func chain(n int) api.Term {
	t := name("a")
	for range n - 1 {
		t = of(sieve.Not, t)
	}
	return t
}

// wide is a term of so many terms: an And of names.
func wide(n int) api.Term {
	t := of(sieve.And)
	for i := range n - 1 {
		t.Kids = append(t.Kids, name(fmt.Sprint("a", i)))
	}
	return t
}

// bushy is a term of so many terms (an odd number), half of them at either side.
func bushy(n int) api.Term {
	if n < 3 {
		return long(1)
	}
	left := n / 2
	if left%2 == 0 {
		left--
	}
	return of(sieve.Plus, bushy(left), bushy(n-1-left))
}
