package sieve

import (
	"math"

	"longshore/api"
	"longshore/octet"
	"longshore/value"
)

// Check tells whether a filter may be.
func Check(t api.Term) api.Errno {
	if counted(t, api.MaxRules+1) > api.MaxRules {
		return api.ErrTerms
	}
	return fault(t, false)
}

// counted is how many terms a term has, told only up to most: whatever it is made of, no more of them are looked at.
func counted(t api.Term, most int) int {
	n := 1
	for i := 0; i < len(t.Kids) && n < most; i++ {
		n += counted(t.Kids[i], most-n)
	}
	return n
}

// fault is the first error in a term and its Kids.
func fault(t api.Term, listed bool) api.Errno {
	switch {
	case !isFormed(t):
		return api.ErrSieve
	case !hasOperand(t, listed):
		return api.ErrOperand
	}
	for i, kid := range t.Kids {
		if e := fault(kid, t.Kind == In && i > 0); e != api.OK {
			return e
		}
	}
	return api.OK
}

// isFormed tells whether a term has what its kind has, and nothing else.
func isFormed(t api.Term) bool {
	least, most := kidsOf(t.Kind)
	switch {
	case t.Kind < Literal || t.Kind > Negative:
		return false
	case t.Text != "" && t.Kind != Name && t.Kind != Fit:
		return false
	case !isNull(t.Value) && t.Kind != Literal && t.Kind != Fit:
		return false
	case len(t.Kids) < least || len(t.Kids) > most:
		return false
	}
	return t.Kind != In || areLiterals(t.Kids[1:])
}

// kidsOf is how many Kids a kind has: at least, at most.
func kidsOf(kind int) (int, int) {
	switch kind {
	case Literal, Name:
		return 0, 0
	case Not, Fit, Nothing, Negative:
		return 1, 1
	case And, Or, In:
		return 2, math.MaxInt
	case Between:
		return 3, 3
	}
	return 2, 2
}

func areLiterals(l []api.Term) bool {
	for _, t := range l {
		if t.Kind != Literal {
			return false
		}
	}
	return true
}

func isNull(v api.Value) bool { return value.Equal(v, api.Value{}) }

// hasOperand tells whether the Value and the Text of a term are such as its kind may have.
func hasOperand(t api.Term, listed bool) bool {
	switch t.Kind {
	case Literal:
		return isLiteral(t.Value, listed)
	case Name:
		return isName(t.Text)
	case Fit:
		escape, is := escapeIn(t.Value)
		return is && isText(t.Text) && !endsOpen(t.Text, escape)
	}
	return true
}

func isText(s string) bool { return octet.Utf8(s) < 0 }

func isName(s string) bool { return s != "" && len(s) <= api.MaxName && isText(s) }

func isLiteral(v api.Value, listed bool) bool {
	switch v.Kind {
	case api.Bool, api.String:
		return value.Check(v) == api.OK
	case api.Long:
		return value.Check(v) == api.OK && (listed || int64(v.Num) >= 0)
	case api.Double:
		f := math.Float64frombits(v.Num)
		return value.Check(v) == api.OK && isFinite(f) && (listed || !math.Signbit(f))
	}
	return false
}

// escapeIn is the escape that a Fit's Value says, noEscape if it is Null; false: it may not stand there.
func escapeIn(v api.Value) (int, bool) {
	if isNull(v) {
		return noEscape, true
	}
	if v.Kind != api.String || value.Check(v) != api.OK {
		return noEscape, false
	}
	return escapeOf(v.Text)
}

// escapeOf is the one character that a text must be to be an escape; false: it is none.
func escapeOf(text string) (int, bool) {
	signs := signsOf(text)
	if len(signs) != 1 || !isText(text) || text == "%" || text == "_" {
		return noEscape, false
	}
	return int(signs[0]), true
}
