package route_test

import (
	"fmt"
	"slices"
	"strings"
	"testing"

	"longshore/api"
	"longshore/route"
)

// P18.1: a router without bindings.
func TestNew(t *testing.T) {
	r := made(t)
	wantBindings(t, r)
	wantMatch(t, r, "a")
	wantDrop(t, r, "q", 0)
	wantErrno(t, "Unbind", r.Unbind(binding("a", "q")), api.ErrUnbound)
	wantBindings(t, r)
}

// P18.1: Bind; a binding is a pattern and a queue's name, both of them.
func TestBind(t *testing.T) {
	r := made(t)
	bind(t, r, binding("a.*", "q"), binding("a.*", "r"), binding("a.#", "q"))
	wantBindings(t, r, binding("a.#", "q"), binding("a.*", "q"), binding("a.*", "r"))
	wantMatch(t, r, "a.b", "q", "r")
	wantMatch(t, r, "a", "q")
	// Patterns that fit the same topics are two all the same.
	bind(t, r, binding("#.*", "q"), binding("*.#", "q"))
	wantBindings(t, r, binding("#.*", "q"), binding("*.#", "q"), binding("a.#", "q"), binding("a.*", "q"), binding("a.*", "r"))
}

// Two bindings whose texts, one behind the other, are the same are two.
func TestBindTellsItsPartsApart(t *testing.T) {
	l := []api.Binding{binding("a", "b.c"), binding("a.b", "c"), binding("a", "bc"), binding("ab", "c"), binding("c", "ab"), binding("b", "a"), binding("a", "b")}
	r := routed(t, l...)
	for i, b := range l {
		wantErrno(t, "Bind again", r.Bind(b), api.ErrBound)
		wantErrno(t, "Unbind", r.Unbind(b), api.OK)
		wantErrno(t, "Unbind again", r.Unbind(b), api.ErrUnbound)
		if n := len(r.Bindings()); n != len(l)-1-i {
			t.Fatalf("%d are left behind %q", n, b)
		}
	}
}

// P18.1: each way to be refused, and the errors' order where several things are wrong; nothing has changed then.
func TestBindRefused(t *testing.T) {
	again := func() *route.Router { return busy(t) }
	fullAgain := func() *route.Router { return full(t) }
	for _, c := range []struct {
		what  string
		again func() *route.Router
		b     api.Binding
		want  api.Errno
	}{
		{"no pattern", again, binding("a..b", "q"), api.ErrPattern},
		{"no pattern, three crosses", again, binding("#.#.#", "q"), api.ErrPattern},
		{"nothing", again, api.Binding{}, api.ErrPattern},
		{"no pattern, no name", again, binding("A", "Q"), api.ErrPattern},
		{"the two the wrong way round", again, binding("a_b", "*"), api.ErrPattern},
		{"no name", again, binding("a", "Q"), api.ErrAddress},
		{"no name, empty", again, binding("a", ""), api.ErrAddress},
		{"no name, an address", again, binding("a", "queue/q"), api.ErrAddress},
		{"there already", again, binding("a.b", "q"), api.ErrBound},
		{"there already, a cross", again, binding("#", "r"), api.ErrBound},
		{"full", fullAgain, binding("c", "q0"), api.ErrBinds},
		{"full, a queue of no binding", fullAgain, binding("a", "more"), api.ErrBinds},
		{"full, there already", fullAgain, fullBinding(0), api.ErrBound},
		{"full, the last one already", fullAgain, fullBinding(maxBinds - 1), api.ErrBound},
		{"full, no name", fullAgain, binding("a", "q 0"), api.ErrAddress},
		{"full, no pattern", fullAgain, binding("a.", "q0"), api.ErrPattern},
		{"full, neither", fullAgain, binding("a.", "q 0"), api.ErrPattern},
	} {
		wantUntouched(t, c.what, c.again, func(r *route.Router) {
			wantErrno(t, c.what, r.Bind(c.b), c.want)
			wantErrno(t, c.what+", again", r.Bind(c.b), c.want)
		})
	}
}

// P18.1: 255, 256, 257 bindings; where one has gone another has room.
func TestBindsAtMost(t *testing.T) {
	r := made(t)
	for i := range maxBinds {
		if n := len(r.Bindings()); n != i {
			t.Fatalf("%d bindings, want %d", n, i)
		}
		bind(t, r, fullBinding(i))
		wantErrno(t, "there", r.Bind(fullBinding(i)), api.ErrBound)
	}
	more := binding("more", "q0")
	wantErrno(t, "one too many", r.Bind(more), api.ErrBinds)
	wantErrno(t, "one too many", r.Bind(more), api.ErrBinds)
	wantErrno(t, "Unbind what was refused", r.Unbind(more), api.ErrUnbound)
	wantErrno(t, "Unbind", r.Unbind(fullBinding(17)), api.OK)
	bind(t, r, more)
	wantErrno(t, "full again", r.Bind(fullBinding(17)), api.ErrBinds)
	wantErrno(t, "there", r.Bind(more), api.ErrBound)
	wantDrop(t, r, "q63", 4)
	for i := range 4 {
		bind(t, r, binding("new", fmt.Sprint("q", i)))
	}
	wantErrno(t, "full again", r.Bind(binding("new", "q5")), api.ErrBinds)
	if n := len(r.Bindings()); n != maxBinds {
		t.Fatalf("%d bindings", n)
	}
}

// All may be to one queue, or of one pattern.
func TestBindsAtMostOfOne(t *testing.T) {
	toOne, ofOne := made(t), made(t)
	var names []string
	for i := range maxBinds {
		name := fmt.Sprint("n", i)
		names = append(names, name)
		bind(t, toOne, binding(name, "q"))
		bind(t, ofOne, binding("*", name))
	}
	slices.Sort(names)
	wantErrno(t, "full", toOne.Bind(binding("more", "q")), api.ErrBinds)
	wantErrno(t, "full", ofOne.Bind(binding("*", "more")), api.ErrBinds)
	wantMatch(t, toOne, "n255", "q")
	wantMatch(t, toOne, "n256")
	wantMatch(t, ofOne, "any", names...)
	wantDrop(t, ofOne, "n77", 1)
	wantDrop(t, toOne, "q", maxBinds)
	wantBindings(t, toOne)
	bind(t, toOne, binding("more", "q"))
	wantBindings(t, toOne, binding("more", "q"))
}

// P18.1: Unbind takes just that binding.
func TestUnbind(t *testing.T) {
	for i, b := range inBusy() {
		r := busy(t)
		wantErrno(t, "Unbind", r.Unbind(b), api.OK)
		wantBindings(t, r, slices.Delete(inBusy(), i, i+1)...)
		wantErrno(t, "Unbind again", r.Unbind(b), api.ErrUnbound)
		wantBindings(t, r, slices.Delete(inBusy(), i, i+1)...)
		bind(t, r, b)
		wantBindings(t, r, inBusy()...)
	}
}

// P18.1: Unbind of what is not there, and of what may not be, which is not there either.
func TestUnbindRefused(t *testing.T) {
	again := func() *route.Router { return busy(t) }
	for _, b := range []api.Binding{{}, binding("a.b", "s"), binding("a.c", "q"), binding("gone", "gone"), binding("b", "gone"), binding("*.*", "q"), binding("q", "a"), binding("a.b", "Q"), binding("A.B", "q"), binding("a..b", "q"), binding("a.b ", "q"), binding("", "q"), binding("a.b", ""), binding("#.#.#", "r"), binding(row("*", 9), "q"), binding("a", strings.Repeat("q", 1000))} {
		wantUntouched(t, told(b), again, func(r *route.Router) {
			wantErrno(t, "Unbind "+told(b), r.Unbind(b), api.ErrUnbound)
		})
	}
	r := made(t)
	for _, b := range inBusy() {
		wantErrno(t, "Unbind of an empty one", r.Unbind(b), api.ErrUnbound)
	}
	wantBindings(t, r)
}

// P18.1: Drop takes all of one queue, and no other's.
func TestDrop(t *testing.T) {
	for queue, n := range map[string]int{"q": 4, "r": 3, "s": 1} {
		r := busy(t)
		wantDrop(t, r, queue, n)
		wantBindings(t, r, slices.DeleteFunc(inBusy(), func(b api.Binding) bool { return b.Queue == queue })...)
		wantDrop(t, r, queue, 0)
		wantErrno(t, "Unbind", r.Unbind(binding("a.b", queue)), api.ErrUnbound)
		bind(t, r, binding("a.b", queue))
		wantDrop(t, r, queue, 1)
	}
	r := full(t)
	for i := range maxBinds / 4 {
		wantDrop(t, r, fmt.Sprint("q", i), 4)
		if n := len(r.Bindings()); n != maxBinds-4*i-4 {
			t.Fatalf("%d are left", n)
		}
	}
}

// P18.1: Drop of a queue without bindings, and of a text that is no queue's name, takes none.
func TestDropOfNone(t *testing.T) {
	again := func() *route.Router { return busy(t) }
	for _, queue := range []string{"", "gone", "none", "Q", "q ", "qq", "a", "#", "a.b", "queue/q", "*", "r\x00"} {
		wantUntouched(t, brief(queue), again, func(r *route.Router) { wantDrop(t, r, queue, 0) })
	}
	r := busy(t)
	for _, queue := range badNames() {
		wantDrop(t, r, queue, 0)
		wantBindings(t, r, inBusy()...)
	}
}
