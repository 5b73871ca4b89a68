package route_test

import (
	"fmt"
	"math/rand"
	"slices"
	"strings"
	"testing"

	"longshore/api"
	"longshore/route"
)

// P18.2: no topic.
func TestMatchRefused(t *testing.T) {
	again := func() *route.Router { return busy(t) }
	for _, text := range slices.Concat(badTopics(), badPatterns(), goodPatterns()) {
		wantUntouched(t, brief(text), again, func(r *route.Router) { wantNoMatch(t, r, text) })
		wantNoMatch(t, made(t), text)
	}
}

// P18.2: no binding that fits, one queue by several bindings, many queues.
func TestMatch(t *testing.T) {
	again := func() *route.Router { return busy(t) }
	for topic, want := range map[string][]string{
		"a":             {"q", "r"},
		"b":             {"q", "r"},
		"c":             {"q", "r"},
		"a.b":           {"q", "r", "s"},
		"a.c":           {"q", "r"},
		"x.b":           {"r", "s"},
		"x.y":           {"r"},
		"x.y.c":         {"q", "r"},
		"a.b.a":         {"r"},
		row("a", 8):     {"r"},
		row("a.c", 4):   {"q", "r"},
		"a.b.c.d.e.f.c": {"q", "r"},
	} {
		wantUntouched(t, topic, again, func(r *route.Router) { wantMatch(t, r, topic, want...) })
	}
	r := routed(t, binding("a.*", "q"), binding("b.#", "r"))
	for _, topic := range []string{"a", "c", "a.b.c", "c.a", row("a", 8)} {
		wantMatch(t, r, topic)
	}
	wantMatch(t, made(t), "a")
}

// P18.2: a queue to which several bindings lead is told once, as long as one of them is there.
func TestMatchTellsEachOnce(t *testing.T) {
	patterns := []string{"a.b", "a.*", "*.b", "*.*", "#", "a.#", "#.b", "#.#", "*.#", "#.*", "a.#.b", "a.b.#", "#.a.b", "*.b.#", "#.a.#.b", "#.#.b"}
	r := made(t)
	for _, p := range patterns {
		bind(t, r, binding(p, "q"))
		wantMatch(t, r, "a.b", "q")
	}
	bind(t, r, binding("a.b", "p"), binding("#", "r"), binding("*.b", "r"), binding("c", "none"))
	for _, p := range patterns {
		wantMatch(t, r, "a.b", "p", "q", "r")
		wantErrno(t, "Unbind", r.Unbind(binding(p, "q")), api.OK)
	}
	wantMatch(t, r, "a.b", "p", "r")
}

// names are queues' names in the order of their bytes.
func names() []string {
	return []string{"-", "--", "-a", ".", "..", "0", "00", "1", "10", "2", "9", "_", "__", "_a", "a", "a-", "a-b", "a.", "a.b", "a0", "a_", "aa", "aaa", "ab", "b", "ba", "q", "q.1", "q1", "q10", "q2", "z", "zz"}
}

// P18.2: queues are told sorted by their bytes, whatever order they came in.
func TestMatchIsSorted(t *testing.T) {
	r := rand.New(rand.NewSource(181))
	for range 20 {
		router := made(t)
		for _, i := range r.Perm(len(names())) {
			bind(t, router, binding([]string{"#", "a", "*"}[r.Intn(3)], names()[i]))
		}
		for range 5 {
			wantMatch(t, router, "a", names()...)
		}
	}
	long := strings.Repeat("a", maxName-1)
	wantMatch(t, routed(t, binding("#", long+"b"), binding("#", long), binding("#", long+"a"), binding("#", long[1:])), "a", long[1:], long, long+"a", long+"b")
}

// patterns are some in the order of their bytes: # ahead of *, these ahead of - and the dot, then digits, then letters.
func patterns() []string {
	return []string{"#", "#.#", "#.*", "#.a", "*", "*.#", "*.*", "*.-", "*.0", "*.a", "-", "--", "-.a", "0", "0.#", "00", "1", "10", "2", "a", "a-", "a-.b", "a.#", "a.*", "a.-", "a.0", "a.a", "a.a.a", "a.b", "a0", "aa", "aa.a", "b", "z"}
}

// P18.2: bindings are told sorted by their patterns' bytes, of one pattern by the queues'.
func TestBindingsAreSorted(t *testing.T) {
	var all []api.Binding
	for i, p := range patterns() {
		for j, n := range names() {
			if (i+j)%5 == 0 && len(all) < maxBinds {
				all = append(all, binding(p, n))
			}
		}
	}
	r := rand.New(rand.NewSource(182))
	for range 10 {
		router := made(t)
		for _, i := range r.Perm(len(all)) {
			bind(t, router, all[i])
		}
		wantUntouched(t, "Bindings", func() *route.Router { return routed(t, all...) }, func(r *route.Router) { wantBindings(t, r, all...) })
		wantBindings(t, router, all...)
		wantBindings(t, router, all...)
	}
	// By the pattern first: not by the queue, not by both as one text.
	wantBindings(t, routed(t, binding("b", "a"), binding("a.b", "a"), binding("a", "c"), binding("a", "b")), binding("a", "b"), binding("a", "c"), binding("a.b", "a"), binding("b", "a"))
	wantBindings(t, routed(t, binding("a", "z"), binding("a-", "a"), binding("a.a", "a")), binding("a", "z"), binding("a-", "a"), binding("a.a", "a"))
}

// The lists above are in the order of their bytes.
func TestListsAreSorted(t *testing.T) {
	if !slices.IsSorted(names()) || !slices.IsSorted(patterns()) {
		t.Error("not sorted")
	}
}

// Match and Bindings with as many bindings as may be.
func TestMatchOfFull(t *testing.T) {
	r := full(t)
	var all []string
	for i := range maxBinds / 4 {
		all = append(all, fmt.Sprint("q", i))
	}
	slices.Sort(all)
	for _, topic := range []string{"a", "a.c", "b", "c", row("b", 8)} {
		wantMatch(t, r, topic, all...)
	}
	for i := range maxBinds {
		if i%4 == 2 {
			wantErrno(t, "Unbind", r.Unbind(fullBinding(i)), api.OK)
		}
	}
	wantMatch(t, r, "c")
	wantMatch(t, r, "a.b", all...)
	wantMatch(t, r, "a.b.c")
}
