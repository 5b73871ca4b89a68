package queue_test

import (
	"bytes"
	"cmp"
	"fmt"
	"reflect"
	"runtime"
	"slices"
	"strings"
	"testing"
	"weak"

	"longshore/api"
	"longshore/queue"
)

// lies is where a list lies, up to the end of its room.
type lies struct{ first, behind uintptr }

// places are where all lists in something lie, those that stand in the room behind others too.
func places(x any) []lies {
	var l []lies
	walk(reflect.ValueOf(x), func(list reflect.Value) {
		first := list.Pointer()
		l = append(l, lies{first, first + uintptr(list.Len())*list.Type().Elem().Size()})
	})
	return l
}

// walk tells of all lists in something, each up to the end of its room, ahead of what stands in it.
func walk(v reflect.Value, tell func(reflect.Value)) {
	switch v.Kind() {
	case reflect.Struct:
		for i := range v.NumField() {
			walk(v.Field(i), tell)
		}
	case reflect.Slice:
		if v.Cap() == 0 {
			return
		}
		list := v.Slice(0, v.Cap())
		tell(list)
		for i := range list.Len() {
			walk(list.Index(i), tell)
		}
	}
}

// apart tells whether no two lists share memory.
func apart(l ...[]lies) bool {
	all := slices.Concat(l...)
	slices.SortFunc(all, func(a, b lies) int { return cmp.Compare(a.first, b.first) })
	for i := 1; i < len(all); i++ {
		if all[i].first < all[i-1].behind {
			return false
		}
	}
	return true
}

// roomy is an entry whose Data, empty or not, has room to spare in which marks stand.
func roomy(e api.Entry) api.Entry {
	e.Data = append(slices.Clone(e.Data), "mark"...)[:len(e.Data)]
	return e
}

// withRoom is entries as text, with what stands in the room behind them.
func withRoom(l ...api.Entry) string {
	s := told(l)
	for _, e := range l {
		s += fmt.Sprintf(" %x", e.Data[:cap(e.Data)])
	}
	return s
}

// scribble overwrites lists, with their room.
func scribble(x any) {
	walk(reflect.ValueOf(x), func(list reflect.Value) {
		for i := range list.Len() {
			switch v := list.Index(i); v.Kind() {
			case reflect.Uint8:
				v.SetUint(77)
			case reflect.Int:
				v.SetInt(77)
			}
		}
	})
}

// The helpers above see what they are to see.
func TestRoomIsSeen(t *testing.T) {
	for _, e := range []api.Entry{entry(1, 1), {Seq: 2}} {
		c := roomy(e)
		before := withRoom(c)
		if told(c) != told(e) || !apart(places(c), places(e)) || apart(places(c), places(c)) || len(places([]api.Entry{c})) != 2 {
			t.Errorf("a copy with room: %s", before)
		}
		c.Data[:cap(c.Data)][len(c.Data)]++
		if told(c) != told(e) || withRoom(c) == before {
			t.Errorf("what changes in the room is not seen: %s", before)
		}
		scribble([]api.Entry{c})
		if c.Data[:cap(c.Data)][len(c.Data)] != 77 {
			t.Errorf("scribbled over: %s", withRoom(c))
		}
	}
	if l := []int{1, 2}; apart(places(l[:1]), places(l)) || !apart(places(l[:1:1]), places(l[1:])) {
		t.Error("pieces of a list")
	}
}

// DOC.md's R2: what is Put stays as it was, with its room, and is not kept: it may be overwritten then.
func TestPutKeepsNothing(t *testing.T) {
	for _, data := range []string{"", "x", "some bytes", strings.Repeat("long", 1000)} {
		e := roomy(api.Entry{Seq: 5, Priority: 4, Expiry: -1, Data: []byte(data)})
		want := told(copied(e))
		before := withRoom(e)
		q := filled(t, 0, e)
		wantErrno(t, "Put", q.Put(e), api.ErrEntry)
		wantErrno(t, "Put", made(t, config(1, 0)).Put(turned(e, func(x *api.Entry) { x.Data, x.Holder = e.Data, 1 })), api.ErrEntry)
		if after := withRoom(e); after != before {
			t.Fatalf("handed in, it is %s, before: %s", after, before)
		}
		scribble(e)
		if got, is := q.Peek(0, nil); !is || told(got) != want || !apart(places(got), places(e)) {
			t.Fatalf("Peek: %s, %v, want %s", told(got), is, want)
		}
	}
}

// gather makes each call that tells entries, and answers all that was told, and the lists.
func gather(q *queue.Queue) (told []api.Entry, lists []any) {
	tell := func(e api.Entry) { told = append(told, e) }
	asked := func(says func(api.Entry) bool) func(api.Entry) bool {
		return func(e api.Entry) bool { tell(e); return says(e) }
	}
	all := func() {
		for e := range q.All() {
			tell(e)
		}
	}
	all()
	for range 2 {
		e, _ := q.Peek(0, asked(hasSeq(11)))
		tell(e)
		e, _ = q.Peek(0, nil)
		tell(e)
		e, _ = q.Take(7, asked(hasSeq(8)))
		tell(e)
		e, _, _ = q.Back(8, 7, false)
		tell(e)
		lists = append(lists, q.Release(1))
		e, _ = q.Take(1, hasSeq(6))
		tell(e)
		e, _ = q.Take(1, hasSeq(5))
		tell(e)
	}
	all()
	e, _, _ := q.Back(12, 2, true)
	tell(e)
	q.Take(2, hasSeq(12))
	e, _, _ = q.Back(12, 2, true) // dead
	tell(e)
	e, _ = q.Remove(5, 1)
	tell(e)
	e, _ = q.Remove(3, 0)
	tell(e)
	lists = append(lists, q.Expire(1000), q.Expire(1000), q.Release(1))
	lists = append(lists, q.Expire(1000))
	return told, lists
}

// DOC.md's R2: all that is told, to fits, by answers and by ranges, is new memory, with its room; whoever overwrites it changes nothing.
func TestWhatIsToldIsNew(t *testing.T) {
	q := busy(t)
	told1, lists1 := gather(q)
	told2, lists2 := gather(busy(t))
	if brief(told1...) != brief(told2...) || len(told1) < 30 {
		t.Fatalf("%s and %s", brief(told1...), brief(told2...))
	}
	var all [][]lies
	for _, e := range slices.Concat(told1, told2) {
		all = append(all, places(e))
	}
	for _, l := range slices.Concat(lists1, lists2) {
		all = append(all, places(l))
	}
	if !apart(all...) {
		t.Error("answers share memory")
	}
	left := slices.Collect(q.All())
	before := told(left)
	scribble(told1)
	for _, l := range lists1 {
		scribble(l)
	}
	if got := slices.Collect(q.All()); told(got) != before || !apart(slices.Concat(all...), places(got), places(left)) {
		t.Errorf("%s, before: %s", told(got), before)
	}
}

// DOC.md's R2: overwritten at once, whatever is told, the queue answers as another one whose answers nobody touches.
func TestScribblingChangesNothing(t *testing.T) {
	touched, other := busy(t), busy(t)
	over := func(e api.Entry) string {
		s := told(e)
		scribble(e)
		return s
	}
	play := func(q *queue.Queue, tell func(api.Entry) string) string {
		s := ""
		for range 2 {
			for e := range q.All() {
				s += tell(e)
			}
			e, _ := q.Peek(3, func(e api.Entry) bool { s += tell(e); return e.Seq == 11 })
			s += tell(e)
			e, _ = q.Take(4, func(e api.Entry) bool { s += tell(e); return e.Seq == 8 })
			s += tell(e)
			e, _, _ = q.Back(8, 4, true)
			s += tell(e)
		}
		for _, e := range q.Expire(60) {
			s += tell(e)
		}
		e, _ := q.Remove(12, 2)
		return s + tell(e) + seen(q)
	}
	if got, want := play(touched, over), play(other, func(e api.Entry) string { return told(e) }); got != want {
		t.Errorf("%s, want %s", got, want)
	}
}

// P17.9: what a range has still to tell stays, though it has left the queue, and who got it overwrites it.
func TestRangeBehindWhatLeft(t *testing.T) {
	q := busy(t)
	var got []api.Entry
	for e := range q.All() {
		got = append(got, copied(e))
		scribble(e)
		for _, x := range inBusy() {
			gone, _ := q.Remove(x.Seq, x.Holder)
			scribble(gone)
		}
		put(t, q, entry(100+len(got), 9))
	}
	if told(got) != told(inBusy()) {
		t.Errorf("%s, want %s", told(got), told(inBusy()))
	}
}

// DOC.md's R3: no Data, and lists of none, are empty.
func TestNothingIsEmpty(t *testing.T) {
	for _, data := range [][]byte{nil, {}, make([]byte, 0, 9)} {
		e := api.Entry{Seq: 1, Expiry: 0, Data: data}
		q := filled(t, 0, e)
		asked := 0
		got, is := q.Take(1, func(e api.Entry) bool { asked++; return len(e.Data) == 0 })
		if !is || len(got.Data) != 0 || asked != 1 || !apart(places(got), places(e)) {
			t.Errorf("Take: %s, %v", told(got), is)
		}
		if l := q.Expire(5); len(l) != 0 {
			t.Errorf("Expire: %s", told(l))
		}
		if l := q.Release(2); len(l) != 0 {
			t.Errorf("Release: %v", l)
		}
		q.Release(1)
		if l := q.Expire(5); len(l) != 1 || len(l[0].Data) != 0 || !apart(places(l), places(e)) {
			t.Errorf("Expire: %s", told(l))
		}
	}
}

// inUse is how many bytes are in use.
func inUse() uint64 {
	var m runtime.MemStats
	runtime.GC()
	runtime.ReadMemStats(&m)
	return m.HeapAlloc
}

// LANGUAGE.md's rule 8: what has left, what was refused and what was told is not kept.
func TestGoneIsNotKept(t *testing.T) {
	q := made(t, config(8, 1))
	seq := 0
	big := func(n int) {
		for range n {
			seq++
			put(t, q, api.Entry{Seq: seq, Priority: seq % 10, Expiry: 7, Data: make([]byte, maxMessage)})
		}
	}
	before := inUse()
	for i, call := range []func(){
		func() { big(8); q.Expire(7) },
		func() {
			big(8)
			for e := range q.All() {
				q.Remove(e.Seq, 0)
			}
		},
		func() {
			big(8)
			for e, is := q.Take(1, nil); is; e, is = q.Take(1, nil) {
				q.Remove(e.Seq, 1)
			}
		},
		func() {
			big(8)
			for e, is := q.Take(1, nil); is; e, is = q.Take(1, nil) {
				q.Back(e.Seq, 1, true)
			}
		},
		func() {
			big(8)
			q.Take(1, func(api.Entry) bool { return false })
			q.Peek(0, func(api.Entry) bool { return false })
			for range 8 {
				q.Take(1, nil)
			}
			q.Release(1)
			q.Expire(7)
		},
		func() {
			for range 8 {
				q.Put(api.Entry{Seq: seq, Data: make([]byte, maxMessage)})
				q.Put(api.Entry{Seq: seq + 1, Data: make([]byte, maxMessage+1)})
			}
		},
	} {
		call()
		if free, held := q.Len(); free+held != 0 {
			t.Fatalf("call %d: %d, %d are left", i, free, held)
		}
		if after := inUse(); after > before+maxMessage/2 {
			t.Errorf("call %d: %d bytes are in use, before: %d", i, after, before)
		}
	}
	runtime.KeepAlive(q)
}

// LANGUAGE.md's rule 8: of an entry its Data is kept once, and of a name no more than the name.
func TestNoMoreIsKept(t *testing.T) {
	before := inUse()
	text := strings.Repeat("x", 1<<23)
	q := made(t, api.QueueConfig{Name: text[:5], Dead: text[:6], Most: 8})
	if after := inUse(); after > before+1<<20 {
		t.Errorf("%d bytes are in use, before: %d", after, before)
	}
	for i := range 8 {
		put(t, q, api.Entry{Seq: i + 1, Expiry: -1, Data: bytes.Repeat([]byte{7}, maxMessage/2)})
	}
	q.Take(1, nil)
	q.Peek(4, nil)
	if after := inUse(); after > before+4*maxMessage+maxMessage/2 {
		t.Errorf("%d bytes are in use, before: %d", after, before)
	}
	runtime.KeepAlive(q)
}

// DOC.md's R2: neither what is handed in nor a fits is kept.
func TestArgumentsAreNotKept(t *testing.T) {
	q := filled(t, 0, entry(1, 1), entry(2, 2))
	handed := handIn(t, q)
	runtime.GC()
	for i, p := range handed {
		if p.Value() != nil {
			t.Errorf("the argument %d is kept", i)
		}
	}
	wantAll(t, q, held(entry(2, 2), 1), entry(1, 1), api.Entry{Seq: 3, Expiry: -1, Data: make([]byte, 64)})
}

// handIn hands a queue an entry's Data and two functions, and answers what these have, as long as somebody has it.
func handIn(t *testing.T, q *queue.Queue) []weak.Pointer[[64]byte] {
	data, first, second := new([64]byte), new([64]byte), new([64]byte)
	put(t, q, api.Entry{Seq: 3, Expiry: -1, Data: data[:]})
	q.Take(1, func(api.Entry) bool { return first[0] == 0 })
	q.Peek(0, func(api.Entry) bool { return second[0] == 0 })
	return []weak.Pointer[[64]byte]{weak.Make(data), weak.Make(first), weak.Make(second)}
}

// DOC.md's R2: fits is called while the call runs, and never behind it.
func TestFitsIsCalledWithinTheCall(t *testing.T) {
	q := busy(t)
	runs := false
	fits := func(e api.Entry) bool {
		if !runs {
			t.Errorf("called behind the call, of %s", brief(e))
		}
		return e.Seq == 8
	}
	for range 3 {
		runs = true
		q.Peek(0, fits)
		q.Take(3, fits)
		runs = false
		seen(q)
		q.Back(8, 3, false)
		q.Take(4, nil)
		q.Release(4)
		q.Put(entry(50, 4))
		q.Remove(50, 0)
		q.Expire(-1)
	}
}
