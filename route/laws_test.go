package route_test

import (
	"math/rand"
	"slices"
	"testing"

	"longshore/api"
	"longshore/route"
)

func fits(t *testing.T, pattern, topic string) bool {
	t.Helper()
	is, e := route.Fits(pattern, topic)
	wantErrno(t, "Fits "+pattern+" "+topic, e, api.OK)
	return is
}

func covers(t *testing.T, a, b string) bool {
	t.Helper()
	is, e := route.Covers(a, b)
	wantErrno(t, "Covers "+a+" "+b, e, api.OK)
	return is
}

// P18.5: each pattern covers itself, and # covers all.
func TestCoversItself(t *testing.T) {
	r := rand.New(rand.NewSource(191))
	l := slices.Concat(allPatterns(5, "a"), goodPatterns(), goodTopics(), goodWords())
	for range 2000 {
		l = append(l, anyRow(r, 1+r.Intn(8), "a", "b", "c", "*", "#"))
	}
	for _, p := range l {
		for _, all := range []string{p, "#", "#.#", "*.#", "#.*"} {
			wantCovers(t, all, p, true)
		}
	}
}

// P18.5: what covers something that covers a third thing covers that.
func TestCoversThrough(t *testing.T) {
	l := slices.Concat(allPatterns(3, "a"), []string{"b", "a.b", "b.#", "#.b", "#.a.b.#", row("*", 8), row("*", 7), "#." + row("*", 7), row("*", 7) + ".#", row("a", 8), "a.#." + row("*", 6), "#." + row("a", 6) + ".#", "*.#." + row("*", 6)})
	through := 0
	is := map[[2]string]bool{}
	for _, a := range l {
		for _, b := range l {
			is[[2]string{a, b}] = covers(t, a, b)
		}
	}
	for _, a := range l {
		for _, b := range l {
			for _, c := range l {
				if a == b || b == c || !is[[2]string{a, b}] || !is[[2]string{b, c}] {
					continue
				}
				through++
				if !is[[2]string{a, c}] {
					t.Fatalf("%q covers %q, that covers %q", a, b, c)
				}
			}
		}
	}
	if through < 500 {
		t.Errorf("only %d", through)
	}
}

// P18.5: likewise with any patterns that are near to one another.
func TestCoversThroughAny(t *testing.T) {
	r := rand.New(rand.NewSource(192))
	through := 0
	for range 60000 {
		b := anyRow(r, 1+r.Intn(8), "a", "b", "*", "#")
		a, c := nearTo(r, b, "a", "*", "#", "#"), nearTo(r, b, "a", "b", "*")
		if a != b && b != c && covers(t, a, b) && covers(t, b, c) {
			through++
			wantCovers(t, a, c, true)
		}
	}
	if through < 500 {
		t.Errorf("only %d", through)
	}
}

// P18.3: what covers fits all that the other one fits; a topic is covered just where it is fitted.
func TestCoversAndFits(t *testing.T) {
	r := rand.New(rand.NewSource(193))
	met := map[bool]int{}
	for range 60000 {
		b := anyRow(r, 1+r.Intn(8), "a", "b", "*", "#")
		a, topic := nearTo(r, b, "a", "b", "*", "#"), anyRow(r, 1+r.Intn(8), "a", "b", "c")
		wantCovers(t, a, topic, fits(t, a, topic))
		if covers(t, a, b) && fits(t, b, topic) {
			wantFits(t, a, topic, true)
			met[true]++
		} else if fits(t, b, topic) && !fits(t, a, topic) {
			wantCovers(t, a, b, false)
			met[false]++
		}
	}
	wantBoth(t, met, 300)
}

// P18.5: a queue is told by Match just where Bindings has a binding to it whose pattern Fits, with any calls in any order.
func TestMatchIsByBindings(t *testing.T) {
	r := rand.New(rand.NewSource(194))
	for range 60 {
		router := made(t)
		for range 60 {
			anyCall(r, router.Bindings()).call(router)
			topic := anyRow(r, 1+r.Intn(4), "a", "b", "c")
			var want []string
			for _, b := range router.Bindings() {
				if fits(t, b.Pattern, topic) {
					want = append(want, b.Queue)
				}
			}
			slices.Sort(want)
			wantMatch(t, router, topic, slices.Compact(want)...)
		}
	}
}

// P18.5: a binding whose pattern covers another's to the same queue makes that one needless.
func TestCoveredBindingIsNeedless(t *testing.T) {
	r := rand.New(rand.NewSource(195))
	met := map[bool]int{}
	topics := allTopics(4, "a", "b", "c")
	for range 300 {
		b := anyRow(r, 1+r.Intn(4), "a", "b", "*", "#")
		a := nearTo(r, b, "a", "*", "#")
		one, both := routed(t, binding(a, "q")), routed(t, binding(a, "q"))
		both.Bind(binding(b, "q"))
		needless := true
		for _, topic := range topics {
			x, _ := one.Match(topic)
			y, _ := both.Match(topic)
			needless = needless && slices.Equal(x, y)
		}
		is := covers(t, a, b)
		if is && !needless {
			t.Fatalf("%q covers %q", a, b)
		}
		met[is]++
	}
	wantBoth(t, met, 50)
}
