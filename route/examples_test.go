package route_test

import (
	"testing"

	"longshore/api"
	"longshore/route"
)

// The chapter's errors and kinds of addresses, by their numbers, and its limits.
func TestNumbers(t *testing.T) {
	for _, c := range []struct{ got, want api.Errno }{{api.OK, 0}, {api.ErrAddress, 82}, {api.ErrPattern, 180}, {api.ErrBound, 181}, {api.ErrUnbound, 182}, {api.ErrBinds, 183}} {
		if c.got != c.want {
			t.Errorf("%d, want %d", c.got, c.want)
		}
	}
	if route.ToQueue != 1 || route.ToTopic != 2 || route.ToTxns != 3 {
		t.Errorf("kinds: %d %d %d", route.ToQueue, route.ToTopic, route.ToTxns)
	}
	if api.MaxName != maxName || api.MaxBinds != maxBinds {
		t.Errorf("limits: %d %d", api.MaxName, api.MaxBinds)
	}
}

// The chapter's table of examples: Fits.
func TestExamplesOfFits(t *testing.T) {
	wantFits(t, "a.*.c", "a.b.c", true)
	wantFits(t, "a.#", "a", true)
	wantFits(t, "#.c", "a.b.c", true)
	wantFits(t, "*", "a.b", false)
	wantNoFits(t, "a..b", "a", api.ErrPattern)
	wantNoFits(t, "#.#.#", "a", api.ErrPattern)
	wantNoFits(t, "a", "*", api.ErrAddress)
	wantNoFits(t, "a", "a.", api.ErrAddress)
}

// The chapter's table of examples: Covers.
func TestExamplesOfCovers(t *testing.T) {
	wantCovers(t, "#", "a.*", true)
	wantCovers(t, "a.*", "a.b", true)
	wantCovers(t, "a.*", "a.#", false)
	wantCovers(t, "a.#", "a.*", true)
	wantCovers(t, "*.#", "#.*", true)
	wantCovers(t, "#.a.#", "a", true)
	wantNoCovers(t, "*.*.*.*.*.*.*.*", "*.*.*.*.*.*.*.*..")
	wantCovers(t, "*.*.*.*.*.*.*.*", "#.*.*.*.*.*.*.*", false)
	wantCovers(t, "*.*.*.*.*.*.*.*", "*.*.*.*.*.*.*.*", true)
	wantCovers(t, "*.*.*.*.*.*.*.*", "*.*.*.*.#.*.*.*", false)
	wantCovers(t, "a.#.*", "a.*.#", true)
	wantCovers(t, "a.*.b.#", "a.#.b", false)
}

// The chapter's table of examples: a router.
func TestExamplesOfRouter(t *testing.T) {
	r := made(t)
	wantErrno(t, "Bind(a.*, q)", r.Bind(binding("a.*", "q")), 0)
	wantErrno(t, "Bind(#, r)", r.Bind(binding("#", "r")), 0)
	wantErrno(t, "Bind(a.*, q)", r.Bind(binding("a.*", "q")), 181)
	wantMatch(t, r, "a.b", "q", "r")
	wantMatch(t, r, "b", "r")
	wantNoMatch(t, r, "")
	wantErrno(t, "Unbind(a.*, r)", r.Unbind(binding("a.*", "r")), 182)
	wantDrop(t, r, "q", 1)
	wantBindings(t, r, binding("#", "r"))
}

// The chapter's table of examples: Address.
func TestExamplesOfAddress(t *testing.T) {
	wantAddress(t, "queue/a.b_c", 1, "a.b_c")
	wantAddress(t, "topic/a.#", 2, "a.#")
	wantAddress(t, "txns", 3, "")
	wantNoAddress(t, "queue/")
	wantNoAddress(t, "topic/A")
	wantNoAddress(t, "q")
}

func wantDrop(t *testing.T, r calls, queue string, want int) {
	t.Helper()
	if got := r.Drop(queue); got != want {
		t.Fatalf("Drop(%s): %d, want %d", brief(queue), got, want)
	}
}
