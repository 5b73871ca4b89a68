package route_test

import (
	"fmt"
	"slices"
	"strings"
	"testing"

	"longshore/api"
	"longshore/route"
)

// The limits are said anew, not asked of the program.
const (
	maxName  = 64
	maxBinds = 256
	maxWord  = 32
	maxParts = 8
)

func binding(pattern, queue string) api.Binding {
	return api.Binding{Pattern: pattern, Queue: queue}
}

// told is something as text; an empty list and none are the same there.
func told(x any) string { return fmt.Sprintf("%q", x) }

// brief is a text, or the begin of a long one.
func brief(s string) string {
	if len(s) > 300 {
		return fmt.Sprintf("%q.. (%d bytes)", s[:40], len(s))
	}
	return fmt.Sprintf("%q", s)
}

// row is so many of one text, with dots between them.
func row(part string, n int) string {
	return strings.Join(slices.Repeat([]string{part}, n), ".")
}

// routed is a router with these bindings.
func routed(t *testing.T, l ...api.Binding) *route.Router {
	t.Helper()
	r := made(t)
	bind(t, r, l...)
	return r
}

func made(t *testing.T) *route.Router {
	t.Helper()
	r := route.New()
	if r == nil {
		t.Fatal("New(): nil")
	}
	return r
}

func bind(t *testing.T, r *route.Router, l ...api.Binding) {
	t.Helper()
	for _, b := range l {
		wantErrno(t, "Bind "+told(b), r.Bind(b), api.OK)
	}
}

func wantErrno(t *testing.T, what string, got, want api.Errno) {
	t.Helper()
	if got != want {
		t.Fatalf("%s: %d, want %d", what, got, want)
	}
}

func wantMatch(t *testing.T, r calls, topic string, want ...string) {
	t.Helper()
	if got, e := r.Match(topic); !slices.Equal(got, want) || e != api.OK {
		t.Fatalf("Match(%s): %q, %d, want %q", brief(topic), got, e, want)
	}
}

func wantNoMatch(t *testing.T, r calls, topic string) {
	t.Helper()
	if got, e := r.Match(topic); len(got) != 0 || e != api.ErrAddress {
		t.Fatalf("Match(%s): %q, %d, want ErrAddress", brief(topic), got, e)
	}
}

func wantBindings(t *testing.T, r calls, want ...api.Binding) {
	t.Helper()
	if got := r.Bindings(); !slices.Equal(got, want) {
		t.Fatalf("Bindings(): %q, want %q", got, want)
	}
}

func wantFits(t *testing.T, pattern, topic string, want bool) {
	t.Helper()
	if got, e := route.Fits(pattern, topic); got != want || e != api.OK {
		t.Fatalf("Fits(%q, %q): %v, %d, want %v", pattern, topic, got, e, want)
	}
}

func wantNoFits(t *testing.T, pattern, topic string, want api.Errno) {
	t.Helper()
	if got, e := route.Fits(pattern, topic); got || e != want {
		t.Fatalf("Fits(%s, %s): %v, %d, want %d", brief(pattern), brief(topic), got, e, want)
	}
}

func wantCovers(t *testing.T, a, b string, want bool) {
	t.Helper()
	if got, e := route.Covers(a, b); got != want || e != api.OK {
		t.Fatalf("Covers(%q, %q): %v, %d, want %v", a, b, got, e, want)
	}
}

func wantNoCovers(t *testing.T, a, b string) {
	t.Helper()
	if got, e := route.Covers(a, b); got || e != api.ErrPattern {
		t.Fatalf("Covers(%s, %s): %v, %d, want ErrPattern", brief(a), brief(b), got, e)
	}
}

func wantAddress(t *testing.T, text string, kind int, rest string) {
	t.Helper()
	if k, s, e := route.Address(text); k != kind || s != rest || e != api.OK {
		t.Fatalf("Address(%q): %d, %q, %d, want %d, %q", text, k, s, e, kind, rest)
	}
}

func wantNoAddress(t *testing.T, text string) {
	t.Helper()
	if k, s, e := route.Address(text); k != 0 || s != "" || e != api.ErrAddress {
		t.Fatalf("Address(%s): %d, %q, %d, want ErrAddress", brief(text), k, s, e)
	}
}

// calls are what a router can be asked.
type calls interface {
	Bind(b api.Binding) api.Errno
	Unbind(b api.Binding) api.Errno
	Drop(queue string) int
	Match(topic string) ([]string, api.Errno)
	Bindings() []api.Binding
}

var _ calls = (*route.Router)(nil)

// seen is what can be seen of a router without a change of it.
func seen(r calls) string {
	s := told(r.Bindings())
	for _, topic := range []string{"", "a", "b", "c", "a.b", "b.a", "a.a", "c.c", "a.b.c", "c.b.a", "a.b.a.b", row("a", 8), row("c", 8), row("a", 9)} {
		l, e := r.Match(topic)
		s += fmt.Sprintf(" %q %d", l, e)
	}
	return s
}

// probed is all that can be seen of a router, by calls that change it, too: what is bound, how much room there is, what goes.
func probed(r calls) string {
	s := seen(r)
	for _, b := range r.Bindings() {
		s += fmt.Sprint(" ", r.Bind(b), r.Unbind(b), r.Unbind(b), r.Bind(b), r.Bind(b))
	}
	for i := range maxBinds + 1 {
		s += fmt.Sprint(" ", r.Bind(binding("a.#", fmt.Sprint("probe", i%7, "-", i))))
	}
	s += seen(r)
	for _, q := range []string{"", "q", "r", "probe0-0", "probe0-1", "Q"} {
		s += fmt.Sprint(" ", r.Drop(q), r.Drop(q))
	}
	return s + seen(r)
}

// wantUntouched wants that a call changes nothing; it says itself what it wants as an answer.
func wantUntouched(t *testing.T, what string, again func() *route.Router, call func(r *route.Router)) {
	t.Helper()
	r := again()
	before := seen(r)
	call(r)
	if after := seen(r); after != before {
		t.Fatalf("%s: %s, before: %s", what, after, before)
	}
	if got, want := probed(r), probed(again()); got != want {
		t.Fatalf("%s: something has changed: %s, want %s", what, got, want)
	}
}

// inBusy are bindings to three queues, in the order in which they are told.
func inBusy() []api.Binding {
	return []api.Binding{binding("#", "r"), binding("#.c", "q"), binding("*", "q"), binding("*.b", "s"), binding("a", "q"), binding("a.#", "r"), binding("a.b", "q"), binding("a.b", "r")}
}

// busy is a router in the midst of things: some of its bindings have gone, some have gone and come again.
func busy(t *testing.T) *route.Router {
	t.Helper()
	l := inBusy()
	r := routed(t, l[6], binding("b", "gone"), l[0], l[4], l[3], binding("#", "gone"), l[7], l[1], l[5], binding("a", "s"), l[2])
	wantErrno(t, "Unbind", r.Unbind(l[0]), api.OK)
	wantErrno(t, "Unbind", r.Unbind(binding("a", "s")), api.OK)
	bind(t, r, l[0])
	if n := r.Drop("gone"); n != 2 {
		t.Fatalf("Drop: %d", n)
	}
	wantBindings(t, r, l...)
	return r
}

// full is a router with as many bindings as may be: each of four patterns to each of 64 queues.
func full(t *testing.T) *route.Router {
	t.Helper()
	r := made(t)
	for i := range maxBinds {
		bind(t, r, fullBinding(i))
	}
	return r
}

func fullBinding(i int) api.Binding {
	return binding([]string{"a", "a.*", "#", "b.#"}[i%4], fmt.Sprint("q", i/4))
}
