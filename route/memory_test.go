package route_test

import (
	"fmt"
	"reflect"
	"runtime"
	"slices"
	"strings"
	"testing"
	"time"
	"unsafe"

	"longshore/api"
	"longshore/route"
)

// lies is where a list lies, up to the end of its room.
type lies struct{ first, behind uintptr }

func place[T any](l []T) lies {
	v := reflect.ValueOf(l)
	return lies{v.Pointer(), v.Pointer() + uintptr(cap(l))*reflect.TypeFor[T]().Size()}
}

// apart tells whether no two lists share memory.
func apart(l ...lies) bool {
	slices.SortFunc(l, func(a, b lies) int { return int(a.first) - int(b.first) })
	for i := 1; i < len(l); i++ {
		if l[i].first < l[i-1].behind {
			return false
		}
	}
	return true
}

// The helpers above see what they are to see.
func TestRoomIsSeen(t *testing.T) {
	l := make([]string, 2, 4)
	if apart(place(l[:1]), place(l)) || apart(place(l), place(l[1:2])) || !apart(place(l[:1:1]), place(l[1:])) || !apart(place(l), place(slices.Clone(l))) {
		t.Error("pieces of a list")
	}
}

// DOC.md's R2: all that is told is new memory, with its room; whoever overwrites it changes nothing.
func TestWhatIsToldIsNew(t *testing.T) {
	for _, again := range []func(*testing.T) *route.Router{busy, full} {
		r := again(t)
		before := seen(r)
		var all []lies
		for range 4 {
			for _, topic := range []string{"a", "a.b", "b.c", "a.b.c"} {
				l, e := r.Match(topic)
				wantErrno(t, "Match", e, api.OK)
				all = append(all, place(l))
				l = l[:cap(l)]
				for i := range l {
					l[i] = "scribbled"
				}
			}
			l := r.Bindings()
			all = append(all, place(l))
			l = l[:cap(l)]
			for i := range l {
				l[i] = binding("a", "scribbled")
			}
		}
		if !apart(all...) {
			t.Error("answers share memory")
		}
		if after := seen(r); after != before {
			t.Errorf("%s, before: %s", after, before)
		}
		if probed(r) != probed(again(t)) {
			t.Error("something has changed")
		}
	}
}

// DOC.md's R2: what is handed in is not kept: a text whose bytes are overwritten behind the call changes nothing. (The language lets nobody do so but by such a way.)
func TestTextsAreNotKept(t *testing.T) {
	pattern, queue := []byte("a.*"), []byte("some-queue")
	r := routed(t, binding(unsafe.String(&pattern[0], len(pattern)), unsafe.String(&queue[0], len(queue))))
	copy(pattern, "b.#")
	copy(queue, "another-q1")
	wantBindings(t, r, binding("a.*", "some-queue"))
	wantMatch(t, r, "a.b", "some-queue")
	wantErrno(t, "Bind", r.Bind(binding("a.*", "some-queue")), api.ErrBound)
	wantDrop(t, r, "some-queue", 1)

	for _, whole := range []string{"queue/some-queue", "topic/a.*.c"} {
		text := []byte(whole)
		_, rest, e := route.Address(unsafe.String(&text[0], len(text)))
		wantErrno(t, "Address", e, api.OK)
		copy(text, "------------------------")
		if rest != whole[6:] {
			t.Errorf("Address(%q): %q", whole, rest)
		}
	}
}

// DOC.md's R2: what is handed in stays as it was.
func TestArgumentsStay(t *testing.T) {
	r := busy(t)
	for _, whole := range []string{"a.b", "#", "q", "queue/q", "topic/a.#", "txns", "", "A", "a..b", strings.Repeat("w", 100)} {
		text := append([]byte(whole), "room"...)
		s := unsafe.String(&text[0], len(whole))
		r.Bind(binding(s, "q"))
		r.Bind(binding("a", s))
		r.Unbind(binding(s, s))
		r.Match(s)
		r.Drop(s)
		route.Fits(s, s)
		route.Covers(s, s)
		route.Address(s)
		if string(text) != whole+"room" {
			t.Errorf("%q is %q", whole, text)
		}
	}
}

// DOC.md's R3: lists of none are empty.
func TestNothingIsEmpty(t *testing.T) {
	r := made(t)
	if l, e := r.Match("a"); len(l) != 0 || e != api.OK {
		t.Errorf("Match: %q, %d", l, e)
	}
	if l := r.Bindings(); len(l) != 0 {
		t.Errorf("Bindings: %q", l)
	}
	if l, e := busy(t).Match("A"); len(l) != 0 || e != api.ErrAddress {
		t.Errorf("Match: %q, %d", l, e)
	}
}

// inUse is how many bytes are in use.
func inUse() uint64 {
	var m runtime.MemStats
	runtime.GC()
	runtime.ReadMemStats(&m)
	return m.HeapAlloc
}

// wantInUse wants hardly more bytes in use than before.
func wantInUse(t *testing.T, what string, before uint64) {
	t.Helper()
	if after := inUse(); after > before+1<<19 {
		t.Errorf("%s: %d bytes are in use, before: %d", what, after, before)
	}
}

// LANGUAGE.md's rule 8: of a long text in which a pattern, a name, an address stands no more is kept than that.
func TestNoMoreIsKept(t *testing.T) {
	before := inUse()
	long := func(s string) string { return (s + strings.Repeat("x", 1<<22))[:len(s)] }
	r := made(t)
	bind(t, r, binding(long("a.*"), "q"), binding("a.#", long("r")), binding(long("#"), long("s")))
	wantInUse(t, "Bind", before)
	_, queue, _ := route.Address(long("queue/some.name"))
	_, topic, _ := route.Address(long("topic/some.*.name"))
	wantInUse(t, "Address", before)
	r.Bind(binding(long("a.*"), "q"))
	r.Bind(binding(long("A"), long("Q")))
	r.Unbind(binding(long("a.*"), long("none")))
	r.Match(long("a.b"))
	r.Drop(long("none"))
	wantInUse(t, "others", before)
	wantBindings(t, r, binding("#", "s"), binding("a.#", "r"), binding("a.*", "q"))
	if queue != "some.name" || topic != "some.*.name" {
		t.Errorf("%q, %q", queue, topic)
	}
	runtime.KeepAlive(r)
}

// LANGUAGE.md's rule 8: what has gone, what was refused and what was told is not kept.
func TestGoneIsNotKept(t *testing.T) {
	r := made(t)
	before := inUse()
	for i := range 20000 {
		b := binding(fmt.Sprint("a.", i), fmt.Sprint("q", i%3))
		bind(t, r, b)
		r.Bindings()
		r.Match(b.Pattern)
		r.Bind(binding("a", fmt.Sprint("Q", i)))
		if i%2 == 0 {
			wantErrno(t, "Unbind", r.Unbind(b), api.OK)
		} else {
			wantDrop(t, r, b.Queue, 1)
		}
	}
	wantInUse(t, "gone", before)
	wantBindings(t, r)
	runtime.KeepAlive(r)
}

// DOC.md's R1: every call ends, in little time and memory, however long the texts are.
func TestGreatTexts(t *testing.T) {
	const n = 1 << 24
	r := full(t)
	for _, text := range []string{strings.Repeat("a", n), strings.Repeat(".", n), strings.Repeat("a.", n/2), strings.Repeat("#.", n/2), strings.Repeat("*", n), strings.Repeat("\xff", n), "a." + strings.Repeat("a", n), row("a", 8) + strings.Repeat(".a", n/2)} {
		var before, after runtime.MemStats
		began := time.Now()
		runtime.ReadMemStats(&before)
		wantErrno(t, "Bind", r.Bind(binding(text, text)), api.ErrPattern)
		wantErrno(t, "Bind", r.Bind(binding("a", text)), api.ErrAddress)
		wantErrno(t, "Unbind", r.Unbind(binding(text, text)), api.ErrUnbound)
		wantDrop(t, r, text, 0)
		wantNoMatch(t, r, text)
		wantNoFits(t, text, text, api.ErrPattern)
		wantNoFits(t, "#", text, api.ErrAddress)
		wantNoCovers(t, text, text)
		wantNoCovers(t, "#", text)
		runtime.ReadMemStats(&after)
		if used := after.TotalAlloc - before.TotalAlloc; used > 1<<16 {
			t.Errorf("%s: %d bytes", brief(text), used)
		}
		for _, kind := range []string{"queue/", "topic/", "txns"} {
			wantNoAddress(t, kind+text)
		}
		if took := time.Since(began); took > 10*time.Second {
			t.Errorf("%s: %v", brief(text), took)
		}
	}
}

// Fits and Covers have little to do, whatever the patterns: their crosses are two.
func TestWorstPatterns(t *testing.T) {
	began := time.Now()
	for range 20000 {
		wantFits(t, "#.a.a.#.a.a.b", row("a", 8), false)
		wantCovers(t, "#.a.a.#.a.a.b", "#.#.a.a.a.a.a.b", true)
	}
	if took := time.Since(began); took > 20*time.Second {
		t.Errorf("%v", took)
	}
}
