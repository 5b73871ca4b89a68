package store_test

import (
	"cmp"
	"fmt"
	"reflect"
	"runtime"
	"slices"
	"strings"
	"sync"
	"testing"
	"time"
	"unsafe"

	"longshore/api"
	"longshore/disk"
	"longshore/store"
)

// lies is where a list lies, up to the end of its room.
type lies struct{ first, behind uintptr }

// places are where all lists in something lie, those that stand in the room behind others too.
func places(x any) []lies {
	var l []lies
	walk(reflect.ValueOf(x), func(list reflect.Value) {
		first := list.Pointer()
		l = append(l, lies{first, first + uintptr(list.Len())*list.Type().Elem().Size()})
	})
	return l
}

// walk tells of all lists in something, each up to the end of its room, ahead of what stands in it.
func walk(v reflect.Value, tell func(reflect.Value)) {
	switch v.Kind() {
	case reflect.Struct:
		for i := range v.NumField() {
			walk(v.Field(i), tell)
		}
	case reflect.Slice:
		if v.Cap() == 0 {
			return
		}
		list := v.Slice(0, v.Cap())
		tell(list)
		for i := range list.Len() {
			walk(list.Index(i), tell)
		}
	}
}

// areApart tells whether no two lists share memory.
func areApart(l ...[]lies) bool {
	all := slices.Concat(l...)
	slices.SortFunc(all, func(a, b lies) int { return cmp.Compare(a.first, b.first) })
	for i := 1; i < len(all); i++ {
		if all[i].first < all[i-1].behind {
			return false
		}
	}
	return true
}

// scribble overwrites all lists in something, with their room.
func scribble(x any) {
	walk(reflect.ValueOf(x), func(list reflect.Value) {
		for i := range list.Len() {
			overwrite(list.Index(i))
		}
	})
}

func overwrite(v reflect.Value) {
	switch v.Kind() {
	case reflect.Uint8:
		v.SetUint('#')
	case reflect.Int:
		v.SetInt(77)
	case reflect.Bool:
		v.SetBool(!v.Bool())
	case reflect.String:
		v.SetString("scribbled")
	case reflect.Struct:
		for i := range v.NumField() {
			overwrite(v.Field(i))
		}
	}
}

// roomy is an operation whose Data, empty or not, has room to spare in which marks stand; roomyOps are several, with room behind them.
func roomy(op api.Op) api.Op {
	op.Entry.Data = append(slices.Clone(op.Entry.Data), "mark"...)[:len(op.Entry.Data)]
	return op
}

func roomyOps(ops ...api.Op) []api.Op {
	var l []api.Op
	for _, op := range ops {
		l = append(l, roomy(op))
	}
	return append(l, roomy(put("mark", durable(99, 9))))[:len(ops)]
}

// withRoom is operations as text, with what stands in the room behind them and their Data.
func withRoom(l []api.Op) string {
	s := fmt.Sprint(len(l))
	for _, op := range l[:cap(l)] {
		d := op.Entry.Data
		s += fmt.Sprintf(" %+v %q", op, d[:cap(d)])
	}
	return s
}

// The helpers above see what they are to see.
func TestRoomIsSeen(t *testing.T) {
	l := roomyOps(put("q", durable(1, 4)), put("q", plain(2, 4)))
	before := withRoom(l)
	if !areApart(places(l)) || areApart(places(l), places(l[1:])) || areApart(places(l), places(l[0].Entry.Data[:1])) || len(places(l)) < 4 {
		t.Error("places")
	}
	for _, change := range []func(){
		func() { d := l[0].Entry.Data; d[:len(d)+1][len(d)]++ }, func() { l[1].Entry.Data[0]++ }, func() { l[:3][2].Queue = "x" }, func() { l[1].Seq++ },
	} {
		change()
		if after := withRoom(l); after == before {
			t.Errorf("a change is not seen: %s", after)
		} else {
			before = after
		}
	}
	c := []api.QueueConfig{lasting("q", 1)}
	scribble(c)
	scribble(l)
	if c[0] != (api.QueueConfig{Name: "scribbled", Most: 77, Dead: "scribbled", Tries: 77}) || !strings.HasPrefix(string(l[:3][2].Entry.Data), "###") || l[0].Queue != "scribbled" {
		t.Errorf("scribbled over: %+v, %+v", c, l)
	}
}

// DOC.md's R2: what is handed to Apply stays as it was, with its room, whatever is answered; and may be overwritten then: nothing of it is kept.
func TestOpsAreNotKept(t *testing.T) {
	for _, c := range []struct {
		room int
		arm  int
		ops  []api.Op
		want api.Errno
	}{
		{maxDisk, -1, []api.Op{put("q", durable(6, 4)), put("r", plain(7, 9)), remove("q", 1), bind("b", "q"), declare(lasting("n", 5)), put("n", durable(8, 4)), put("p", durable(9, 4)), put("r", turned(durable(10, 4), func(e *api.Entry) { e.Data = nil }))}, api.OK},
		{maxDisk, -1, []api.Op{put("q", durable(6, 4)), put("r", plain(7, 9)), remove("x", 1)}, api.ErrNoQueue},
		{maxDisk, 1, []api.Op{put("q", durable(6, 4)), put("r", plain(7, 9))}, api.ErrDown},
		{len(logOf(busyRecords())) + 5, -1, []api.Op{put("q", durable(6, 4)), put("r", plain(7, 9))}, api.ErrDiskFull},
	} {
		d := disk.New(c.room)
		s := opened(t, d)
		busyAgain := roomyOps(busyOps()...)
		wantApply(t, s, busyAgain...)
		scribble(busyAgain)
		d.Arm(c.arm, 0)
		ops := roomyOps(c.ops...)
		before := withRoom(ops)
		if _, e := s.Apply(ops); e != c.want {
			t.Fatalf("Apply: %d, want %d", e, c.want)
		}
		if after := withRoom(ops); after != before {
			t.Errorf("%s, before: %s", after, before)
		}
		scribble(ops)
		want, _ := made(t, busyOps()...)
		if c.want == api.OK {
			wantApply(t, want, c.ops...)
		}
		wantTold(t, "when the operations are overwritten", s, want)
		if c.want == api.OK {
			wantLasting(t, want, behindFall(t, d))
			wantOk(t, s.Compact())
			wantLasting(t, want, behindFall(t, d))
		}
	}
}

// DOC.md's R2: Data that are one in what is handed in are several in the store.
func TestSharedData(t *testing.T) {
	b := []byte("123456")
	at := func(seq int, data []byte) api.Op {
		e := durable(seq, 4)
		e.Data = data
		return put("q", e)
	}
	s, d := made(t, declare(lasting("q", 9)), at(1, b), at(2, b[:3]), at(3, b[3:]), at(4, b))
	scribble(b)
	for _, c := range []calls{s, behindFall(t, d)} {
		var got []string
		for _, e := range c.Entries("q") {
			got = append(got, string(e.Data))
		}
		if !slices.Equal(got, []string{"123456", "123", "456", "123456"}) {
			t.Errorf("%q", got)
		}
	}
	l := s.Entries("q")
	wantApply(t, s, at(5, l[0].Data), at(6, l[0].Data))
	scribble(l)
	if e, _ := s.Peek("q", 5, nil); string(e.Data) != "123456" {
		t.Errorf("%q", e.Data)
	}
}

// answersOf are all that a store tells, in the order of asking.
func answersOf(s calls) []any {
	var l []any
	peek, _ := s.Peek("q", 0, nil)
	take, _ := s.Take("q", 5, nil)
	s.Release(5)
	match, _ := s.Match("a")
	l = append(l, []api.Entry{peek}, []api.Entry{take}, s.Queues(), s.Bindings(), match)
	for _, c := range s.Queues() {
		l = append(l, s.Entries(c.Name))
	}
	return l
}

// DOC.md's R2: all that is told is new memory, apart from all else that is told; whoever overwrites it changes nothing.
func TestWhatIsToldIsNew(t *testing.T) {
	for _, behind := range []bool{false, true} {
		d, s := busy(t)
		if behind {
			wantOk(t, s.Compact())
			s = opened(t, d)
		}
		before, files := told(s), seen(d)
		var all [][]lies
		var keep []any // so that no memory is used again
		for range 3 {
			l := answersOf(s)
			for _, x := range l {
				all = append(all, places(x))
			}
			for _, x := range l {
				scribble(x)
			}
			keep = append(keep, l)
		}
		if !areApart(all...) {
			t.Error("answers share memory")
		}
		if told(s) != before || seen(d) != files {
			t.Errorf("%s, before: %s", told(s), before)
		}
		if !behind {
			wantLasting(t, s, behindFall(t, d))
		}
		runtime.KeepAlive(keep)
	}
}

// DOC.md's R2: what was told stays as it was, whatever is done then.
func TestWhatIsToldStays(t *testing.T) {
	d, s := busy(t)
	l := answersOf(s)
	before := fmt.Sprintf("%+v", l)
	wantApply(t, s, remove("q", 1), remove("q", 2), put("q", durable(6, 4)), unbind("a", "q"), bind("#", "r"), declare(lasting("n", 1)), gone("p"))
	wantTaken(t, s, "q", 7, 3)
	wantOk(t, s.Back("q", 3, 7, true), s.Compact())
	d.Crash(0)
	if after := fmt.Sprintf("%+v", l); after != before {
		t.Errorf("%s, before: %s", after, before)
	}
}

// DOC.md's R2: who fits may keep and change what it is handed.
func TestFitsIsHandedItsOwn(t *testing.T) {
	_, s := busy(t)
	before := told(s)
	var all [][]lies
	var keep []api.Entry
	no := func(e api.Entry) bool {
		all = append(all, places(e.Data))
		scribble(e.Data)
		keep = append(keep, e)
		return false
	}
	for range 3 {
		s.Take("q", 8, no)
		s.Peek("q", 0, no)
		s.Peek("p", 0, no)
	}
	if len(keep) != 15 || !areApart(all...) {
		t.Errorf("%d times, or they share memory", len(keep))
	}
	if told(s) != before {
		t.Errorf("%s, before: %s", told(s), before)
	}
}

// DOC.md's R2: a store's messages are its own: neither those of the disk's files nor of another store over a disk with the same ones.
func TestOpenIsNew(t *testing.T) {
	d, _ := busy(t)
	files := d.Files()
	a, b := loaded(t, maxDisk, files...), loaded(t, maxDisk, files...)
	s, u := opened(t, a), opened(t, b)
	before := told(s)
	scribble(files)
	for _, k := range []*disk.Disk{a, b} {
		scribble(k.Files())
	}
	scribble(u.Entries("q"))
	wantApply(t, u, remove("q", 1), put("r", durable(3, 4)))
	if told(s) != before {
		t.Errorf("%s, before: %s", told(s), before)
	}
}

// DOC.md's R2: a text whose bytes are overwritten behind the call changes nothing. (The language lets nobody do so but by such a way.)
func TestTextsAreNotKept(t *testing.T) {
	var all [][]byte
	text := func(s string) string {
		b := []byte(s)
		all = append(all, b)
		return unsafe.String(&b[0], len(b))
	}
	s, d := made(t, declare(dying(lasting(text("q"), 9), text("dead"), 2)), declare(lasting(text("dead"), 9)), bind(text("a.*"), text("q")), bind(text("gone"), text("q")), put(text("q"), durable(1, 4)), unbind(text("gone"), text("q")))
	wantTaken(t, s, text("q"), 7, 1)
	wantOk(t, s.Back(text("q"), 1, 7, true))
	wantTaken(t, s, text("q"), 7, 1)
	wantOk(t, s.Bury(text("q"), 1, 7))
	for _, b := range all {
		scribble(b)
	}
	wantQueues(t, s, lasting("dead", 9), dying(lasting("q", 9), "dead", 2))
	wantBindings(t, s, api.Binding{Pattern: "a.*", Queue: "q"})
	wantMatch(t, s, "a.b", "q")
	wantEntries(t, s, "dead", as(durable(1, 4), 2, 1))
	wantApply(t, s, put("q", durable(3, 4)), gone("dead"))
	wantOk(t, s.Compact())
	wantTold(t, "behind a restart", behindFall(t, d), s)
}

// DOC.md's R3: nil and an empty list are the same, in and out.
func TestNothingIsEmpty(t *testing.T) {
	at := func(seq int, data []byte) api.Op {
		e := durable(seq, 4)
		e.Data = data
		return put("q", e)
	}
	s, d := made(t, declare(lasting("q", 9)), at(1, nil), at(2, []byte{}))
	wantLog(t, d, []string{madeRecord(lasting("q", 9)), putRecord("q", api.Entry{Seq: 1, Priority: 4, Expiry: -1}), putRecord("q", api.Entry{Seq: 2, Priority: 4, Expiry: -1})})
	for _, c := range []calls{s, behindFall(t, d)} {
		for _, e := range c.Entries("q") {
			if len(e.Data) != 0 {
				t.Errorf("%q", e.Data)
			}
		}
	}
}

// inUse is how many bytes are in use.
func inUse() uint64 {
	var m runtime.MemStats
	runtime.GC()
	runtime.GC()
	runtime.ReadMemStats(&m)
	return m.HeapAlloc
}

// wantInUse wants hardly more bytes in use than before.
func wantInUse(t *testing.T, what string, before uint64) {
	t.Helper()
	if after := inUse(); after > before+1<<19 {
		t.Errorf("%s: %d bytes are in use, before: %d", what, after, before)
	}
}

// LANGUAGE.md's rule 8: what has gone, what was refused and what was told is not kept; of a message that is there its Data are kept once.
func TestGoneIsNotKept(t *testing.T) {
	great := func(seq int, lasts bool) api.Op {
		return put("q", api.Entry{Seq: seq, Priority: 4, Expiry: 5, Durable: lasts, Data: make([]byte, maxMessage)})
	}
	for _, c := range []struct {
		what string
		do   func(s calls)
	}{
		{"removed", func(s calls) { wantApply(t, s, great(1, false)); wantApply(t, s, remove("q", 1)) }},
		{"put and removed", func(s calls) { wantApply(t, s, great(1, false), remove("q", 1)) }},
		{"taken and removed", func(s calls) {
			wantApply(t, s, great(1, false))
			s.Take("q", 7, nil)
			wantApply(t, s, remove("q", 1))
		}},
		{"dead", func(s calls) {
			wantApply(t, s, great(1, false))
			s.Take("q", 7, nil)
			wantOk(t, s.Back("q", 1, 7, true))
		}},
		{"buried", func(s calls) {
			wantApply(t, s, great(1, false))
			s.Take("q", 7, nil)
			wantOk(t, s.Bury("q", 1, 7))
		}},
		{"its time is over", func(s calls) { wantApply(t, s, great(1, false)); s.Expire(5) }},
		{"with its queue", func(s calls) { wantApply(t, s, great(1, false)); wantApply(t, s, gone("q")) }},
		{"refused", func(s calls) {
			if n, e := s.Apply([]api.Op{great(1, false), great(2, true), great(4, false)}); n != 2 || e != api.ErrEntry {
				t.Errorf("%d, %d", n, e)
			}
		}},
		{"refused by the disk", func(s calls) {
			if _, e := s.Apply([]api.Op{great(1, true), great(2, false)}); e != api.ErrDiskFull {
				t.Errorf("%d", e)
			}
		}},
		{"told", func(s calls) {
			wantApply(t, s, great(1, false))
			s.Entries("q")
			s.Peek("q", 0, nil)
			wantApply(t, s, remove("q", 1))
		}},
	} {
		d := disk.New(10000)
		s := opened(t, d)
		wantApply(t, s, declare(dying(lasting("q", 9), "", 1)))
		before := inUse()
		c.do(s)
		wantInUse(t, c.what, before)
		runtime.KeepAlive(s)
		runtime.KeepAlive(d)
	}
	before := inUse()
	s, _ := made(t, declare(lasting("q", 9)), great(1, false))
	wantInUse(t, "a message that is there", before+maxMessage)
	runtime.KeepAlive(s)
}

// LANGUAGE.md's rule 8: of a log no more is kept than what is there behind it.
func TestLogIsNotKept(t *testing.T) {
	d := disk.New(maxDisk)
	s := opened(t, d)
	wantApply(t, s, declare(lasting("q", 9)))
	for seq := 1; seq < 12; seq++ {
		wantApply(t, s, put("q", api.Entry{Seq: seq, Priority: 4, Expiry: -1, Durable: true, Data: make([]byte, maxMessage)}))
		if seq > 1 {
			wantApply(t, s, remove("q", seq))
		}
	}
	s = nil
	before := inUse()
	u := opened(t, d)
	wantInUse(t, "opened", before+maxMessage)
	wantNext(t, u, 12)
	runtime.KeepAlive(d)
}

// LANGUAGE.md's rule 8: of a long text in which a name stands, and of many bytes of which Data are a piece, no more is kept than that.
func TestNoMoreIsKept(t *testing.T) {
	before := inUse()
	long := func(s string) string { return (s + strings.Repeat("x", 1<<22))[:len(s)] }
	e := durable(1, 4)
	e.Data = make([]byte, 1<<22)[:5:10]
	s, d := made(t, declare(dying(lasting(long("q"), 9), long("d"), 2)), bind(long("a.b"), long("q")), put(long("q"), e))
	s.Take(long("q"), 7, nil)
	s.Peek(long("q"), 0, nil)
	e.Data = nil
	wantInUse(t, "names and Data", before)
	wantNext(t, s, 2)
	runtime.KeepAlive(d)
}

// DOC.md's R1: every call ends, in little time: where queues are full, where there are as many as there may be, where a batch is long.
func TestGreat(t *testing.T) {
	began := time.Now()
	s, d := made(t, declare(dying(lasting("q", maxQueue), "d", 1)), declare(lasting("d", maxQueue)))
	for i := range maxQueue {
		wantApply(t, s, put("q", durable(i+1, i%10)))
	}
	wantRefused(t, s, d, 0, api.ErrQueueFull, put("q", durable(maxQueue+1, 4)))
	for i := range maxQueue {
		e, is := s.Take("q", 1+i%5, nil)
		if !is {
			t.Fatal("none is free")
		}
		switch i % 3 {
		case 0:
			wantApply(t, s, remove("q", e.Seq))
		case 1:
			wantOk(t, s.Back("q", e.Seq, 1+i%5, true))
		}
	}
	wantOk(t, s.Release(2), s.Release(3), s.Compact())
	u := behindFall(t, d)
	wantOk(t, s.Release(1), s.Release(4), s.Release(5))
	wantTold(t, "behind a restart", u, s)

	var ops []api.Op
	for i := range maxQueues - 2 {
		ops = append(ops, declare(passing(fmt.Sprint("n", i), maxQueue)))
	}
	next := s.Next()
	for i := range 100000 {
		e := plain(next+i, i%10)
		e.Expiry = i % 1000
		ops = append(ops, put(fmt.Sprint("n", i%(maxQueues-2)), e))
	}
	wantApply(t, s, ops...)
	for now := range 1000 {
		if n, e := s.Expire(now); n != 100 || e != api.OK {
			t.Fatalf("Expire: %d, %d", n, e)
		}
	}
	ops = ops[:0]
	for i := range 100000 {
		ops = append(ops, put("q", durable(next+100000+i, 4)), remove("q", next+100000+i))
	}
	wantApply(t, s, ops...)
	wantNext(t, opened(t, d), next+200000)
	if took := time.Since(began); took > 60*time.Second {
		t.Errorf("%v", took)
	}
}

// DOC.md's R1: no call panics, whatever it is given.
func TestFarArguments(t *testing.T) {
	far := []int{-1 << 63, -1<<63 + 1, -1 << 32, -1, 0, 1, 1 << 32, 1 << 62, 1<<63 - 1}
	long := strings.Repeat("q", 1<<20)
	for _, queue := range []string{"", "q", "p", "x", "\xff\x00", long} {
		_, s := busy(t)
		for _, a := range far {
			for _, b := range far {
				s.Take(queue, a, func(e api.Entry) bool { return e.Seq == b })
				s.Peek(queue, a, nil)
				s.Back(queue, a, b, a > b)
				s.Bury(queue, a, b)
				s.Release(a)
				s.Apply([]api.Op{{Kind: a, Queue: queue, To: queue, Pattern: queue, Seq: b, Count: b, Config: api.QueueConfig{Name: queue, Most: b, Dead: queue, Tries: a}, Entry: api.Entry{Seq: s.Next(), Priority: a, Expiry: b, Count: a, Holder: b}}})
				for kind := range 10 {
					s.Apply([]api.Op{{Kind: kind, Queue: queue, Pattern: "a", Seq: a, Config: api.QueueConfig{Name: queue, Most: a, Tries: b}, Entry: api.Entry{Seq: b, Expiry: a}}})
				}
			}
			s.Expire(a)
		}
		s.Entries(queue)
		s.Match(queue)
		s.Compact()
	}
}

// DOC.md: stores of different disks may be used by different goroutines: they have nothing in common.
func TestManyAtOnce(t *testing.T) {
	var wait sync.WaitGroup
	for n := range 8 {
		wait.Go(func() {
			d := disk.New(100000)
			s, _ := store.Open(d)
			s.Apply([]api.Op{declare(dying(lasting("q", 100), "d", 1)), declare(lasting("d", 100)), bind("a", "q")})
			for i := range 50 {
				s.Apply([]api.Op{put("q", durable(s.Next(), i%10))})
				if e, is := s.Take("q", 1+n, nil); is && i%3 == 0 {
					s.Back("q", e.Seq, 1+n, true)
				}
			}
			s.Release(1 + n)
			u, e := store.Open(d)
			if e != api.OK || told(u) != told(s) || len(s.Entries("d")) != 17 {
				t.Errorf("%d: %d, %s", n, e, told(s))
			}
		})
	}
	wait.Wait()
}
