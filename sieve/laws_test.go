package sieve_test

import (
	"testing"

	"longshore/api"
	"longshore/sample"
	"longshore/sieve"
)

// wantAlike wants two terms to say the same of a message, by Eval, and as much as that something is known of them.
func wantAlike(t *testing.T, a, b api.Term, m api.Message) {
	t.Helper()
	if x, y := sieve.Eval(a, m), sieve.Eval(b, m); !sample.Same(x, y) || sieve.Fits(a, m) != sieve.Fits(b, m) {
		t.Errorf("%s says %s, %s says %s", brief(told(a)), sample.Written(x), brief(told(b)), sample.Written(y))
	}
	if x, y := sieve.Fits(of(sieve.Nothing, a), m), sieve.Fits(of(sieve.Nothing, b), m); x != y {
		t.Errorf("%s: unknown %v, %s: unknown %v", brief(told(a)), x, brief(told(b)), y)
	}
}

// P16.7: each law, of any terms and messages.
func TestLaws(t *testing.T) {
	c := chances(168, 0)
	not := func(a api.Term) api.Term { return of(sieve.Not, a) }
	came := map[int]int{}
	for range 12000 {
		a, b, d, m := c.term(c.Intn(3)), c.term(c.Intn(3)), c.term(c.Intn(2)), c.message()
		wantAlike(t, not(of(sieve.And, a, b)), of(sieve.Or, not(a), not(b)), m)
		wantAlike(t, not(of(sieve.Or, a, b)), of(sieve.And, not(a), not(b)), m)
		wantAlike(t, not(of(sieve.And, a, b, d)), of(sieve.Or, not(a), not(b), not(d)), m)
		wantAlike(t, not(of(sieve.Or, a, b, d)), of(sieve.And, not(a), not(b), not(d)), m)
		wantAlike(t, of(sieve.Unlike, a, b), not(of(sieve.Same, a, b)), m)
		wantAlike(t, of(sieve.MoreOrSame, a, b), not(of(sieve.Less, a, b)), m)
		wantAlike(t, of(sieve.LessOrSame, a, b), not(of(sieve.More, a, b)), m)
		wantAlike(t, of(sieve.Less, a, b), of(sieve.More, b, a), m)
		wantAlike(t, of(sieve.LessOrSame, a, b), of(sieve.MoreOrSame, b, a), m)
		wantAlike(t, of(sieve.Same, a, b), of(sieve.Same, b, a), m)
		wantAlike(t, of(sieve.Between, a, b, d), of(sieve.And, of(sieve.MoreOrSame, a, b), of(sieve.LessOrSame, a, d)), m)
		says := sieve.Eval(a, m)
		came[says.Kind]++
		if says.Kind == api.Bool || sieve.Fits(of(sieve.Nothing, a), m) {
			wantAlike(t, not(not(a)), a, m)
		}
		// Print and Parse turn nothing.
		if s, e := sieve.Print(a); e == api.OK {
			again, _, e := sieve.Parse(s)
			if e != api.OK {
				t.Errorf("Parse(%q): %d", s, e)
			}
			wantAlike(t, again, a, m)
		}
		if t.Failed() {
			return
		}
	}
	if came[api.Bool] < 500 || came[api.Null] < 500 {
		t.Errorf("%v", came)
	}
}

// P16.7: In is the Or of what each literal is, of one that alone.
func TestLawsOfIn(t *testing.T) {
	c := chances(169, 0)
	for range 4000 {
		x, m := c.term(2), c.message()
		a, b := c.literal(false), c.literal(false)
		wantAlike(t, of(sieve.In, x, a), of(sieve.Same, x, a), m)
		wantAlike(t, of(sieve.In, x, a, b), of(sieve.Or, of(sieve.Same, x, a), of(sieve.Same, x, b)), m)
		if t.Failed() {
			return
		}
	}
}
