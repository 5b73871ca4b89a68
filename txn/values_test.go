package txn_test

import (
	"fmt"
	"hash/crc32"
	"slices"
	"strings"
	"testing"

	"longshore/api"
	"longshore/disk"
	"longshore/store"
	"longshore/txn"
)

// The limits are said anew, not asked of the program.
const (
	maxTxns    = 16
	maxOps     = 256
	maxQueues  = 64
	maxQueue   = 4096
	maxWord    = 4294967295
	maxTime    = 1125899906842624
	maxMessage = 1048576
	maxDisk    = 16777216
	lastSeq    = 4611686018427387904
)

// calls are what transactions can be asked.
type calls interface {
	Declare(owner int) (string, api.Errno)
	Put(id string, owner int, queue string, e api.Entry) api.Errno
	Done(id string, owner int, queue string, seq, holder int, outcome api.State) api.Errno
	Discharge(id string, owner int, fail bool) api.Errno
	Drop(owner int) int
	Open() []string
}

var _ calls = (*txn.Txns)(nil)

// The outcomes, and a state that is none.
var (
	accepted = api.State{Kind: api.KAccepted}
	rejected = api.State{Kind: api.KRejected}
	released = api.State{Kind: api.KReleased}
	modified = api.State{Kind: api.KModified}
	failed   = api.State{Kind: api.KModified, Failed: true}
	received = api.State{Kind: api.KReceived}
)

// The operations.

func declare(c api.QueueConfig) api.Op { return api.Op{Kind: 1, Config: c} }

func gone(queue string) api.Op { return api.Op{Kind: 2, Queue: queue} }

func put(queue string, e api.Entry) api.Op { return api.Op{Kind: 5, Queue: queue, Entry: e} }

func remove(queue string, seq int) api.Op { return api.Op{Kind: 6, Queue: queue, Seq: seq} }

// durable is an entry that is written, plain is one that is not; their Data tell which they are.
func durable(seq, priority int) api.Entry {
	return turned(plain(seq, priority), func(e *api.Entry) { e.Durable = true })
}

func plain(seq, priority int) api.Entry {
	return api.Entry{Seq: seq, Priority: priority, Expiry: -1, Data: fmt.Append(nil, "entry ", seq)}
}

// turned is an entry of which something is changed.
func turned(e api.Entry, turn func(e *api.Entry)) api.Entry {
	e.Data = slices.Clone(e.Data)
	turn(&e)
	return e
}

func held(e api.Entry, holder int) api.Entry {
	return turned(e, func(e *api.Entry) { e.Holder = holder })
}

func counted(e api.Entry, count int) api.Entry {
	return turned(e, func(e *api.Entry) { e.Count = count })
}

// as is a message under another number, as it is among the dead ones.
func as(e api.Entry, seq, count int) api.Entry {
	return turned(e, func(e *api.Entry) { e.Seq, e.Count, e.Holder = seq, count, 0 })
}

// lasting is a durable queue, passing is one that is not.
func lasting(name string, most int) api.QueueConfig {
	return api.QueueConfig{Name: name, Most: most, Durable: true}
}

func passing(name string, most int) api.QueueConfig { return api.QueueConfig{Name: name, Most: most} }

// dying is a queue whose messages are dead behind so many tries.
func dying(c api.QueueConfig, dead string, tries int) api.QueueConfig {
	c.Dead, c.Tries = dead, tries
	return c
}

// What there is, as text; an empty list and none are the same there.

func toldEntry(e api.Entry) string {
	return fmt.Sprintf("%d/%d until %d durable %t count %d holder %d %s", e.Seq, e.Priority, e.Expiry, e.Durable, e.Count, e.Holder, brief(string(e.Data)))
}

func toldEntries(l []api.Entry) string {
	var s []string
	for _, e := range l {
		s = append(s, toldEntry(e))
	}
	return strings.Join(s, "; ")
}

// brief is a text, or what tells a long one from others.
func brief(s string) string {
	if len(s) > 200 {
		return fmt.Sprintf("%q.. (%d bytes, %08x)", s[:20], len(s), crc32.ChecksumIEEE([]byte(s)))
	}
	return fmt.Sprintf("%q", s)
}

// told is all that can be seen of a store.
func told(s *store.Store) string {
	var b strings.Builder
	fmt.Fprintf(&b, "next %d, bindings %v", s.Next(), s.Bindings())
	for _, c := range s.Queues() {
		fmt.Fprintf(&b, "\n%+v: %s", c, toldEntries(s.Entries(c.Name)))
	}
	return b.String()
}

func toldFiles(l []api.File) string {
	var s []string
	for _, f := range l {
		s = append(s, fmt.Sprintf("%s:%q/%d", f.Name, f.Data, f.Safe))
	}
	return strings.Join(s, " ")
}

// seen is what can be seen of a disk.
func seen(d *disk.Disk) string { return fmt.Sprint(d.Up(), " ", toldFiles(d.Files())) }

func loaded(t *testing.T, room int, files ...api.File) *disk.Disk {
	t.Helper()
	d, e := disk.Load(files, room)
	if d == nil || e != api.OK {
		t.Fatalf("Load(%s, %d): %d", toldFiles(files), room, e)
	}
	return d
}

func opened(t *testing.T, d *disk.Disk) *store.Store {
	t.Helper()
	s, e := store.Open(d)
	if s == nil || e != api.OK {
		t.Fatalf("Open of %s: %v, %d", seen(d), s != nil, e)
	}
	return s
}

// behindFall is the store behind a fall of a copy of the disk.
func behindFall(t *testing.T, d *disk.Disk) *store.Store {
	t.Helper()
	c := loaded(t, maxDisk, d.Files()...)
	c.Crash(0)
	c.Start()
	return opened(t, c)
}

// base is a disk, a store over it, and the store's transactions.
type base struct {
	d *disk.Disk
	s *store.Store
	x *txn.Txns
}

// made is one on a new disk of such a room, behind these operations.
func made(t *testing.T, room int, ops ...api.Op) *base {
	t.Helper()
	return over(t, disk.New(room), ops...)
}

// over is one over a disk.
func over(t *testing.T, d *disk.Disk, ops ...api.Op) *base {
	t.Helper()
	b := &base{d: d, s: opened(t, d)}
	b.apply(t, ops...)
	b.x = txn.New(b.s)
	if b.x == nil {
		t.Fatal("New: nil")
	}
	return b
}

func (b *base) apply(t *testing.T, ops ...api.Op) {
	t.Helper()
	if n, e := b.s.Apply(ops); n != 0 || e != api.OK {
		t.Fatalf("Apply: %d, %d, want 0, OK of %+v", n, e, ops)
	}
}

// take lets a holder take messages of a queue, whichever they are.
func (b *base) take(t *testing.T, queue string, holder int, seqs ...int) {
	t.Helper()
	for _, seq := range seqs {
		e, is := b.s.Take(queue, holder, func(e api.Entry) bool { return e.Seq == seq })
		if !is || e.Seq != seq || e.Holder != holder {
			t.Fatalf("Take(%q, %d) of %d: %s, %t", queue, holder, seq, toldEntry(e), is)
		}
	}
}

// example is the chapter's store: in q lie 1 and 2, both held by 7.
func example(t *testing.T) *base {
	t.Helper()
	b := made(t, 100000, declare(dying(lasting("q", 3), "d", 2)), declare(lasting("d", 1)), put("q", durable(1, 4)), put("q", durable(2, 4)))
	b.take(t, "q", 7, 1, 2)
	return b
}

// all is all that can be seen of a store, its disk, and which transactions are open.
func (b *base) all() string {
	return told(b.s) + "\n" + seen(b.d) + "\n" + strings.Join(b.x.Open(), " ")
}

// stays wants an answer, and that nothing has changed: not the store, not the disk, not which transactions are open.
func (b *base) stays(t *testing.T, what string, call func() api.Errno, want api.Errno) {
	t.Helper()
	before := b.all()
	if got := call(); got != want {
		t.Fatalf("%s: %d, want %d", what, got, want)
	}
	if after := b.all(); after != before {
		t.Fatalf("%s: %s\nbefore: %s", what, after, before)
	}
}

// declared is a new transaction, of which one name is wanted.
func (b *base) declared(t *testing.T, owner int, want string) {
	t.Helper()
	if id, e := b.x.Declare(owner); id != want || e != api.OK {
		t.Fatalf("Declare(%d): %q, %d, want %q", owner, id, e, want)
	}
}

// open is a new transaction of an owner.
func (b *base) open(t *testing.T, owner int) string {
	t.Helper()
	id, e := b.x.Declare(owner)
	wantErrno(t, "Declare", e, api.OK)
	return id
}

func (b *base) wantOpen(t *testing.T, want ...string) {
	t.Helper()
	if got := b.x.Open(); !slices.Equal(got, want) {
		t.Fatalf("Open: %q, want %q", got, want)
	}
}

func (b *base) wantEntries(t *testing.T, queue string, want ...api.Entry) {
	t.Helper()
	if got := toldEntries(b.s.Entries(queue)); got != toldEntries(want) {
		t.Fatalf("Entries(%q): %s, want %s", queue, got, toldEntries(want))
	}
}

func (b *base) wantNext(t *testing.T, want int) {
	t.Helper()
	if got := b.s.Next(); got != want {
		t.Fatalf("Next: %d, want %d", got, want)
	}
}

// puts and dones want that parts are taken.
func (b *base) puts(t *testing.T, id string, owner int, queue string, l ...api.Entry) {
	t.Helper()
	for _, e := range l {
		wantErrno(t, "Put", b.x.Put(id, owner, queue, e), api.OK)
	}
}

func (b *base) done(t *testing.T, id string, owner int, queue string, seq, holder int, outcome api.State) {
	t.Helper()
	wantErrno(t, fmt.Sprint("Done of ", queue, " ", seq), b.x.Done(id, owner, queue, seq, holder, outcome), api.OK)
}

func wantErrno(t *testing.T, what string, got, want api.Errno) {
	t.Helper()
	if got != want {
		t.Fatalf("%s: %d, want %d", what, got, want)
	}
}

// keeps are how much of a tail may stay, at the edges of a batch and within it.
func keeps() []int { return []int{-1, 0, 1, 7, 8, 9, 20, 40, 90, 1 << 62} }

// The helpers above see what they are to see.
func TestHelpersSee(t *testing.T) {
	met := map[string]int{}
	for i, change := range []func(b *base){
		func(b *base) {},
		func(b *base) { b.s.Take("q", 1, nil) },
		func(b *base) { b.s.Take("q", 2, nil) },
		func(b *base) { b.apply(t, remove("q", 1)) },
		func(b *base) { b.apply(t, put("q", durable(3, 4))) },
		func(b *base) { b.apply(t, put("q", plain(3, 4))) },
		func(b *base) { b.apply(t, put("q", counted(durable(3, 4), 1))) },
		func(b *base) { b.apply(t, put("d", durable(3, 4))) },
		func(b *base) { b.apply(t, declare(passing("r", 3))) },
		func(b *base) { b.apply(t, declare(dying(passing("r", 3), "q", 0))) },
		func(b *base) { b.apply(t, declare(dying(passing("r", 3), "", 1))) },
		func(b *base) { b.apply(t, gone("d")) },
		func(b *base) { b.x.Declare(1) },
		func(b *base) { b.x.Declare(1); b.x.Declare(1) },
		func(b *base) { b.d.Append("x", nil) },
		func(b *base) { b.d.Crash(0) },
	} {
		b := made(t, maxDisk, declare(lasting("q", 3)), declare(lasting("d", 3)), put("q", durable(1, 4)), put("q", durable(2, 4)))
		change(b)
		if s := b.all(); met[s] > 0 {
			t.Errorf("change %d is not seen: %s", i, s)
		} else {
			met[s]++
		}
	}
}
