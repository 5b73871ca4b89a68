package txn_test

import (
	"cmp"
	"fmt"
	"reflect"
	"runtime"
	"slices"
	"strings"
	"sync"
	"testing"
	"time"
	"unsafe"

	"longshore/api"
	"longshore/disk"
	"longshore/store"
	"longshore/txn"
)

// lies is where a list lies, up to the end of its room.
type lies struct{ first, behind uintptr }

// places are where all lists in something lie, those that stand in the room behind others too.
func places(x any) []lies {
	var l []lies
	walk(reflect.ValueOf(x), func(list reflect.Value) {
		first := list.Pointer()
		l = append(l, lies{first, first + uintptr(list.Len())*list.Type().Elem().Size()})
	})
	return l
}

// walk tells of all lists in something, each up to the end of its room, ahead of what stands in it.
func walk(v reflect.Value, tell func(reflect.Value)) {
	switch v.Kind() {
	case reflect.Struct:
		for i := range v.NumField() {
			walk(v.Field(i), tell)
		}
	case reflect.Slice:
		if v.Cap() == 0 {
			return
		}
		list := v.Slice(0, v.Cap())
		tell(list)
		for i := range list.Len() {
			walk(list.Index(i), tell)
		}
	}
}

// areApart tells whether no two lists share memory.
func areApart(l ...[]lies) bool {
	all := slices.Concat(l...)
	slices.SortFunc(all, func(a, b lies) int { return cmp.Compare(a.first, b.first) })
	for i := 1; i < len(all); i++ {
		if all[i].first < all[i-1].behind {
			return false
		}
	}
	return true
}

// scribble overwrites all lists in something, with their room.
func scribble(x any) {
	walk(reflect.ValueOf(x), func(list reflect.Value) {
		for i := range list.Len() {
			overwrite(list.Index(i))
		}
	})
}

func overwrite(v reflect.Value) {
	switch v.Kind() {
	case reflect.Uint8, reflect.Uint64:
		v.SetUint('#')
	case reflect.Int:
		v.SetInt(77)
	case reflect.Bool:
		v.SetBool(!v.Bool())
	case reflect.String:
		v.SetString("scribbled")
	case reflect.Struct:
		for i := range v.NumField() {
			overwrite(v.Field(i))
		}
	}
}

// roomy is an entry whose Data, empty or not, has room to spare in which marks stand.
func roomy(e api.Entry) api.Entry {
	e.Data = append(slices.Clone(e.Data), "mark"...)[:len(e.Data)]
	return e
}

// deep is an outcome in which there are lists.
func deep(kind int) api.State {
	v := api.Value{Kind: api.Map, List: append([]api.Value{{Kind: api.Symbol, Text: "k"}, {Kind: api.List, List: []api.Value{{Kind: api.Uint, Num: 7}}}}, api.Value{Kind: api.Uint, Num: 9})[:2]}
	return api.State{Kind: kind, Failed: true, Fault: api.Fault{Cond: "x", Info: v}, Ann: v, Inner: append([]api.State{{Kind: 36, Ann: v}}, api.State{Kind: 37})[:1]}
}

// withRoom is something as text, with what stands in the room behind its lists.
func withRoom(x any) string {
	s := fmt.Sprintf("%+v", x)
	walk(reflect.ValueOf(x), func(list reflect.Value) { s += fmt.Sprintf(" %+v", list.Interface()) })
	return s
}

// The helpers above see what they are to see.
func TestRoomIsSeen(t *testing.T) {
	e, s := roomy(durable(1, 4)), deep(39)
	before := withRoom(e) + withRoom(s)
	if !areApart(places(e), places(deep(39))[:1]) || areApart(places(e), places(e.Data[:1])) || len(places(s)) < 4 {
		t.Error("places")
	}
	for _, change := range []func(){
		func() { e.Data[:len(e.Data)+1][len(e.Data)]++ }, func() { e.Data[0]++ }, func() { s.Ann.List[:3][2].Num++ }, func() { s.Inner[:2][1].Kind++ }, func() { s.Fault.Info.List[1].List[0].Num++ },
	} {
		change()
		if after := withRoom(e) + withRoom(s); after == before {
			t.Errorf("a change is not seen: %s", after)
		} else {
			before = after
		}
	}
	scribble(e)
	scribble(s)
	if !strings.HasPrefix(string(e.Data), "###") || s.Inner[0].Kind != 77 || s.Ann.List[:3][2].Num != '#' {
		t.Errorf("scribbled over: %+v, %+v", e, s)
	}
}

// DOC.md's R2: an entry and an outcome stay as they were, with their room, whatever is answered; and may be overwritten then: nothing of them is kept.
func TestPartsAreNotKept(t *testing.T) {
	b := example(t)
	b.apply(t, declare(lasting("r", 9)))
	id := b.open(t, 1)
	for _, c := range []struct {
		queue string
		e     api.Entry
		want  api.Errno
	}{
		{"r", durable(1, 4), api.OK},
		{"r", plain(2, 9), api.OK},
		{"r", turned(durable(3, 4), func(e *api.Entry) { e.Data = nil }), api.OK},
		{"x", durable(4, 4), api.ErrNoQueue},
		{"r", durable(5, 10), api.ErrEntry},
		{"r", turned(durable(6, 4), func(e *api.Entry) { e.Data = make([]byte, maxMessage+1) }), api.ErrLong},
	} {
		e := roomy(c.e)
		before := withRoom(e)
		wantErrno(t, "Put", b.x.Put(id, 1, c.queue, e), c.want)
		if withRoom(e) != before {
			t.Errorf("Put of %s has changed it", toldEntry(c.e))
		}
		scribble(e)
	}
	for _, c := range []struct {
		kind int
		want api.Errno
	}{{35, api.ErrArg}, {39, api.OK}, {39, api.ErrEntry}} {
		s := deep(c.kind)
		before := withRoom(s)
		wantErrno(t, "Done", b.x.Done(id, 1, "q", 1, 7, s), c.want)
		if withRoom(s) != before {
			t.Errorf("Done has changed %s", before)
		}
		scribble(s)
	}
	wantErrno(t, "Discharge", b.x.Discharge(id, 1, false), api.OK)
	b.wantEntries(t, "q", counted(durable(1, 4), 1), held(durable(2, 4), 7))
	want := []api.Entry{turned(plain(2, 9), numbered(4)), turned(durable(1, 4), numbered(3)), {Seq: 5, Priority: 4, Expiry: -1, Durable: true}}
	b.wantEntries(t, "r", want...)
	if l := behindFall(t, b.d).Entries("r"); toldEntries(l) != toldEntries(want[1:]) {
		t.Errorf("behind a fall: %s", toldEntries(l))
	}
}

// DOC.md's R2: Data that are one in what is handed in are several in the transactions; those that the store told may be handed in, and overwritten.
func TestSharedData(t *testing.T) {
	b := made(t, maxDisk, declare(lasting("q", 9)), put("q", durable(1, 4)))
	data := []byte("123456")
	with := func(data []byte) api.Entry { return turned(durable(0, 4), func(e *api.Entry) { e.Data = data }) }
	id, other := b.open(t, 1), b.open(t, 2)
	one, all := with(data), with(data)
	one.Data, all.Data = data[:3], data
	b.puts(t, id, 1, "q", one, all)
	b.puts(t, other, 2, "q", all)
	l := b.s.Entries("q")
	b.puts(t, other, 2, "q", turned(l[0], func(e *api.Entry) {}))
	shared := l[0]
	b.puts(t, id, 1, "q", shared, shared)
	scribble(data)
	scribble(l)
	wantErrno(t, "Discharge", b.x.Discharge(id, 1, false), api.OK)
	wantErrno(t, "Discharge", b.x.Discharge(other, 2, false), api.OK)
	for _, s := range []*store.Store{b.s, behindFall(t, b.d)} {
		var got []string
		for _, e := range s.Entries("q") {
			got = append(got, string(e.Data))
		}
		if !slices.Equal(got, []string{"entry 1", "123", "123456", "entry 1", "entry 1", "123456", "entry 1"}) {
			t.Errorf("%q", got)
		}
	}
}

// DOC.md's R2: what Open tells is new memory, with its room; whoever overwrites it changes nothing, and it stays as it was.
func TestWhatIsToldIsNew(t *testing.T) {
	b := made(t, maxDisk)
	var all [][]lies
	var keep [][]string // so that no memory is used again
	for i := range maxTxns {
		b.open(t, i)
		l := b.x.Open()
		all, keep = append(all, places(l)), append(keep, l)
		if len(l) != i+1 {
			t.Errorf("%q", l)
		}
		scribble(l)
	}
	if !areApart(all...) {
		t.Error("answers share memory")
	}
	l := b.x.Open()
	before := fmt.Sprint(l)
	for i := range maxTxns {
		b.x.Drop(i)
	}
	b.open(t, 1)
	if after := fmt.Sprint(l); after != before || len(b.x.Open()) != 1 {
		t.Errorf("%s, before: %s", after, before)
	}
	runtime.KeepAlive(keep)
}

// DOC.md's R2: a text whose bytes are overwritten behind the call changes nothing. (The language lets nobody do so but by such a way.)
func TestTextsAreNotKept(t *testing.T) {
	var all [][]byte
	text := func(s string) string {
		b := []byte(s)
		all = append(all, b)
		return unsafe.String(&b[0], len(b))
	}
	overwritten := func() {
		for _, b := range all {
			scribble(b)
		}
	}
	b := example(t)
	id, other := b.open(t, 1), b.open(t, 2)
	wantErrno(t, "Put", b.x.Put(text(id), 1, text("d"), durable(0, 4)), api.OK)
	wantErrno(t, "Done", b.x.Done(text(id), 1, text("q"), 1, 7, accepted), api.OK)
	wantErrno(t, "Done", b.x.Done(text(other), 2, text("q"), 2, 7, failed), api.OK)
	wantErrno(t, "Put", b.x.Put(text("t9"), 1, text("d"), durable(0, 4)), api.ErrNoTxn)
	wantErrno(t, "Put", b.x.Put(text(id), 1, text("x"), durable(0, 4)), api.ErrNoQueue)
	overwritten()
	b.wantOpen(t, "t1", "t2")
	b.stays(t, "done with", func() api.Errno { return b.x.Done(other, 2, "q", 1, 7, accepted) }, api.ErrEntry)
	wantErrno(t, "Discharge", b.x.Discharge(text(id), 1, false), api.OK)
	wantErrno(t, "Discharge", b.x.Discharge(text(other), 2, false), api.OK)
	overwritten()
	b.wantEntries(t, "q", counted(durable(2, 4), 1))
	b.wantEntries(t, "d", turned(durable(0, 4), numbered(3)))
	b.wantOpen(t)
}

// DOC.md's R3: nil and an empty list are the same.
func TestNothingIsEmpty(t *testing.T) {
	for _, data := range [][]byte{nil, {}} {
		b := made(t, maxDisk, declare(lasting("q", 9)))
		id := b.open(t, 1)
		b.puts(t, id, 1, "q", api.Entry{Priority: 4, Expiry: -1, Durable: true, Data: data})
		wantErrno(t, "Discharge", b.x.Discharge(id, 1, false), api.OK)
		for _, s := range []*store.Store{b.s, behindFall(t, b.d)} {
			if l := s.Entries("q"); len(l) != 1 || len(l[0].Data) != 0 {
				t.Errorf("%s", toldEntries(l))
			}
		}
		b.wantOpen(t)
	}
}

// inUse is how many bytes are in use.
func inUse() uint64 {
	var m runtime.MemStats
	runtime.GC()
	runtime.GC()
	runtime.ReadMemStats(&m)
	return m.HeapAlloc
}

// wantInUse wants hardly more bytes in use than before.
func wantInUse(t *testing.T, what string, before uint64) {
	t.Helper()
	if after := inUse(); after > before+1<<19 {
		t.Errorf("%s: %d bytes are in use, before: %d", what, after, before)
	}
}

// LANGUAGE.md's rule 8: of a transaction that is open no more, and of what was refused, nothing is kept; of one that is open the Data are kept once, and those of a message that it is done with not at all.
func TestGoneIsNotKept(t *testing.T) {
	great := api.Entry{Priority: 4, Expiry: -1, Data: make([]byte, maxMessage)}
	for _, c := range []struct {
		what string
		do   func(b *base, id string)
		kept uint64
	}{
		{"done", func(b *base, id string) {
			b.puts(t, id, 1, "q", great)
			wantErrno(t, "Discharge", b.x.Discharge(id, 1, false), api.OK)
			b.apply(t, remove("q", b.s.Next()-1))
		}, 0},
		{"with fail", func(b *base, id string) {
			b.puts(t, id, 1, "q", great)
			wantErrno(t, "Discharge", b.x.Discharge(id, 1, true), api.OK)
		}, 0},
		{"refused by the store", func(b *base, id string) {
			b.puts(t, id, 1, "q", great, great, great)
			wantErrno(t, "Discharge", b.x.Discharge(id, 1, false), api.ErrQueueFull)
		}, 0},
		{"a message went", func(b *base, id string) {
			b.puts(t, id, 1, "q", great)
			b.done(t, id, 1, "q", 1, 7, accepted)
			b.apply(t, remove("q", 1))
			wantErrno(t, "Discharge", b.x.Discharge(id, 1, false), api.ErrEntry)
		}, 0},
		{"dropped", func(b *base, id string) {
			b.puts(t, id, 1, "q", great, great, great)
			b.x.Drop(1)
		}, 0},
		{"refused", func(b *base, id string) {
			b.x.Put(id, 2, "q", great)
			b.x.Put(id, 1, "x", great)
			b.x.Put(id, 1, "q", turned(great, func(e *api.Entry) { e.Holder = 1 }))
			b.x.Put(id, 1, "q", turned(great, func(e *api.Entry) { e.Data = make([]byte, maxMessage+1) }))
		}, 0},
		{"open", func(b *base, id string) { b.puts(t, id, 1, "q", great, great) }, 2 * maxMessage},
		{"done with", func(b *base, id string) {
			b.apply(t, put("r", turned(great, numbered(2))))
			b.take(t, "r", 7, 2)
			b.done(t, id, 1, "r", 2, 7, failed)
			b.x.Done(id, 1, "r", 2, 7, failed)
		}, maxMessage},
		{"dead", func(b *base, id string) {
			b.apply(t, put("r", turned(great, numbered(2))))
			b.take(t, "r", 7, 2)
			b.done(t, id, 1, "r", 2, 7, rejected)
			wantErrno(t, "Discharge", b.x.Discharge(id, 1, false), api.OK)
			b.wantNext(t, 4)
		}, maxMessage},
	} {
		b := made(t, 10000, declare(lasting("q", 3)), declare(dying(lasting("r", 3), "q", 1)), put("q", durable(1, 4)))
		b.take(t, "q", 7, 1)
		id := b.open(t, 1)
		before := inUse()
		c.do(b, id)
		wantInUse(t, c.what, before+c.kept)
		runtime.KeepAlive(b)
	}
	runtime.KeepAlive(great)
}

// LANGUAGE.md's rule 8: of a long text in which a name stands, of many bytes of which Data are a piece, and of what else an outcome has, no more is kept than is needed.
func TestNoMoreIsKept(t *testing.T) {
	b := example(t)
	id := b.open(t, 1)
	before := inUse()
	long := func(s string) string { return (s + strings.Repeat("x", 1<<22))[:len(s)] }
	e := plain(0, 4)
	e.Data = make([]byte, 1<<22)[:5:10]
	s := api.State{Kind: 39, Ann: api.Value{Kind: api.Map, List: make([]api.Value, 10000)}, Inner: make([]api.State, 10000), Txn: long("x"), Fault: api.Fault{Text: strings.Repeat("x", 1<<22)}}
	wantErrno(t, "Put", b.x.Put(long(id), 1, long("q"), e), api.OK)
	wantErrno(t, "Done", b.x.Done(long(id), 1, long("q"), 1, 7, s), api.OK)
	e, s = api.Entry{}, api.State{}
	wantInUse(t, "names, Data and an outcome", before)
	runtime.KeepAlive(b)
}

// LANGUAGE.md's rule 8: however many there were, no more is kept than those that are open.
func TestManyAreNotKept(t *testing.T) {
	b := example(t)
	before := inUse()
	for i := range 100000 {
		id := b.open(t, i)
		if i%3 > 0 {
			b.done(t, id, i, "q", 1, 7, released)
			wantErrno(t, "Discharge", b.x.Discharge(id, i, true), api.OK)
		} else if n := b.x.Drop(i); n != 1 {
			t.Fatalf("Drop: %d", n)
		}
	}
	wantInUse(t, "open no more", before)
	b.declared(t, 1, "t100001")
}

// DOC.md's R1: every call ends, in little time: where queues are full, where as many are open as may be, each with as many parts as it may have.
func TestGreat(t *testing.T) {
	began := time.Now()
	b := made(t, maxDisk, declare(dying(lasting("q", maxQueue), "d", 1)), declare(lasting("d", maxQueue)))
	for i := range maxQueue {
		b.apply(t, put("q", durable(i+1, i%10)))
		b.s.Take("q", 7, nil)
	}
	for i := range maxTxns {
		id := b.open(t, i)
		for k := range maxOps {
			b.done(t, id, i, "q", 1+k*maxTxns+i, 7, []api.State{accepted, rejected, released, failed}[k%4])
		}
		b.stays(t, "one more", func() api.Errno { return b.x.Put(id, i, "q", plain(0, 4)) }, api.ErrOps)
	}
	for i := range maxTxns {
		wantErrno(t, "Discharge", b.x.Discharge(fmt.Sprint("t", i+1), i, false), api.OK)
	}
	if q, d := len(b.s.Entries("q")), len(b.s.Entries("d")); q != maxQueue/4 || d != maxQueue/2 {
		t.Errorf("%d, %d", q, d)
	}
	for i := range maxTxns {
		id := b.open(t, i)
		for range maxOps {
			b.puts(t, id, i, "q", turned(durable(0, 4), func(e *api.Entry) { e.Data = make([]byte, 100) }))
		}
	}
	for i, want := range []api.Errno{0, 0, 0, 0, 0, 0, 0, 0, 0, 0, 0, 0, 170, 170, 170, 170} {
		wantErrno(t, "Discharge", b.x.Discharge(fmt.Sprint("t", 17+i), i, false), want)
	}
	if told(behindFall(t, b.d)) != told(b.s) {
		t.Error("behind a fall there is something else")
	}
	if took := time.Since(began); took > 60*time.Second {
		t.Errorf("%v", took)
	}
}

// DOC.md's R1: no call panics, whatever it is given.
func TestFarArguments(t *testing.T) {
	far := []int{-1 << 63, -1<<63 + 1, -1 << 32, -1, 0, 1, 7, 1 << 32, 1 << 62, 1<<63 - 1}
	long := strings.Repeat("t1", 1<<19)
	for _, id := range []string{"", "t1", "t2", "\xff\x00", long} {
		b := example(t)
		for _, owner := range far {
			b.x.Declare(owner)
			for _, n := range far {
				for _, queue := range []string{"q", "", long} {
					b.x.Put(id, owner, queue, api.Entry{Seq: n, Priority: 4, Expiry: -1})
					b.x.Put(id, owner, queue, api.Entry{Seq: n, Priority: n, Expiry: n, Count: n, Holder: n})
					b.x.Done(id, owner, queue, n, 7, failed)
					b.x.Done(id, owner, queue, 1, n, api.State{Kind: n, Failed: true})
				}
			}
			b.x.Discharge(id, owner+1, owner > 0)
			b.x.Discharge(id, owner, owner > 0)
			b.x.Open()
		}
		for _, owner := range far {
			b.x.Drop(owner)
		}
		b.wantOpen(t)
	}
}

// DOC.md: transactions over different stores may be used by different goroutines: they have nothing in common.
func TestManyAtOnce(t *testing.T) {
	var wait sync.WaitGroup
	for n := range 8 {
		wait.Go(func() {
			s, _ := store.Open(disk.New(100000))
			s.Apply([]api.Op{declare(dying(lasting("q", 100), "d", 1)), declare(lasting("d", 100))})
			x := txn.New(s)
			for i := range 60 {
				id, _ := x.Declare(n)
				x.Put(id, n, "q", durable(0, i%10))
				if e, is := s.Take("q", 1+n, nil); is && i%3 == 0 {
					x.Done(id, n, "q", e.Seq, 1+n, rejected)
				}
				if e := x.Discharge(id, n, i%4 == 3); e != api.OK {
					t.Errorf("%d: %d", n, e)
				}
			}
			if q, d := len(s.Entries("q")), len(s.Entries("d")); q+d != 45 || d == 0 || len(x.Open()) > 0 {
				t.Errorf("%d: %d, %d", n, q, d)
			}
		})
	}
	wait.Wait()
}
