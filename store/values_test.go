package store_test

import (
	"encoding/binary"
	"fmt"
	"hash/crc32"
	"slices"
	"strings"
	"testing"

	"longshore/api"
	"longshore/disk"
	"longshore/store"
)

// The limits are said anew, not asked of the program.
const (
	maxName    = 64
	maxQueues  = 64
	maxQueue   = 4096
	maxBinds   = 256
	maxWord    = 4294967295
	maxTime    = 1125899906842624
	maxMessage = 1048576
	maxRecord  = 1049600
	maxDisk    = 16777216
	lastSeq    = 4611686018427387904
)

// calls are what a store can be asked.
type calls interface {
	Apply(ops []api.Op) (int, api.Errno)
	Next() int
	Take(queue string, holder int, fits func(api.Entry) bool) (api.Entry, bool)
	Peek(queue string, behind int, fits func(api.Entry) bool) (api.Entry, bool)
	Back(queue string, seq, holder int, failed bool) api.Errno
	Release(holder int) api.Errno
	Bury(queue string, seq, holder int) api.Errno
	Expire(now int) (int, api.Errno)
	Queues() []api.QueueConfig
	Entries(queue string) []api.Entry
	Bindings() []api.Binding
	Match(topic string) ([]string, api.Errno)
	Compact() api.Errno
}

var _ calls = (*store.Store)(nil)

// The values of records, as chapter 3 writes them in their shortest form.

func uintOf(n int) string {
	switch {
	case n == 0:
		return "\x43"
	case n < 256:
		return "\x52" + string([]byte{byte(n)})
	}
	return "\x70" + four(n)
}

func ulongOf(n uint64) string {
	switch {
	case n == 0:
		return "\x44"
	case n < 256:
		return "\x53" + string([]byte{byte(n)})
	}
	return "\x80" + string(binary.BigEndian.AppendUint64(nil, n))
}

func ubyteOf(n int) string { return "\x50" + string([]byte{byte(n)}) }

func longOf(n int) string {
	if n >= -128 && n < 128 {
		return "\x55" + string([]byte{byte(n)})
	}
	return "\x81" + string(binary.BigEndian.AppendUint64(nil, uint64(n)))
}

func stringOf(s string) string {
	if len(s) < 256 {
		return "\xa1" + string([]byte{byte(len(s))}) + s
	}
	return "\xb1" + four(len(s)) + s
}

func listOf(elements ...string) string {
	s := strings.Join(elements, "")
	switch {
	case len(elements) == 0:
		return "\x45"
	case len(s)+1 < 256:
		return "\xc0" + string([]byte{byte(len(s) + 1), byte(len(elements))}) + s
	}
	return "\xd0" + four(len(s)+4) + four(len(elements)) + s
}

// The records of the log, each as bytes.

func madeRecord(c api.QueueConfig) string {
	return listOf(uintOf(1), stringOf(c.Name), uintOf(c.Most), stringOf(c.Dead), uintOf(c.Tries))
}

func goneRecord(queue string) string { return listOf(uintOf(2), stringOf(queue)) }

func boundRecord(pattern, queue string) string {
	return listOf(uintOf(3), stringOf(pattern), stringOf(queue))
}

func unboundRecord(pattern, queue string) string {
	return listOf(uintOf(4), stringOf(pattern), stringOf(queue))
}

func putRecord(queue string, e api.Entry) string {
	return listOf(uintOf(5), stringOf(queue), ulongOf(uint64(e.Seq)), ubyteOf(e.Priority), longOf(e.Expiry), uintOf(e.Count)) + string(e.Data)
}

func removedRecord(queue string, seq int) string {
	return listOf(uintOf(6), stringOf(queue), ulongOf(uint64(seq)))
}

func movedRecord(queue string, seq int, to string, there, count int) string {
	return listOf(uintOf(8), stringOf(queue), ulongOf(uint64(seq)), stringOf(to), ulongOf(uint64(there)), uintOf(count))
}

// four is four bytes, as the library writes them.
func four(n int) string { return string(binary.BigEndian.AppendUint32(nil, uint32(n))) }

func sum(s string) string { return four(int(crc32.ChecksumIEEE([]byte(s)))) }

// batch is the bytes of a batch of the log, as chapter 20 says them; without records there is none.
func batch(records ...string) string {
	body := ""
	for _, r := range records {
		body += four(len(r)) + r
	}
	if body == "" {
		return ""
	}
	s := four(len(body)) + sum(four(len(body))) + body
	return s + sum(s)
}

// logOf is a log of batches.
func logOf(batches ...[]string) string {
	var s strings.Builder
	for _, b := range batches {
		s.WriteString(batch(b...))
	}
	return s.String()
}

// The operations.

func declare(c api.QueueConfig) api.Op { return api.Op{Kind: 1, Config: c} }

func gone(queue string) api.Op { return api.Op{Kind: 2, Queue: queue} }

func bind(pattern, queue string) api.Op { return api.Op{Kind: 3, Pattern: pattern, Queue: queue} }

func unbind(pattern, queue string) api.Op { return api.Op{Kind: 4, Pattern: pattern, Queue: queue} }

func put(queue string, e api.Entry) api.Op { return api.Op{Kind: 5, Queue: queue, Entry: e} }

func remove(queue string, seq int) api.Op { return api.Op{Kind: 6, Queue: queue, Seq: seq} }

// durable is an entry that is written, plain is one that is not; their Data tells which they are.
func durable(seq, priority int) api.Entry {
	return turned(plain(seq, priority), func(e *api.Entry) { e.Durable = true })
}

func plain(seq, priority int) api.Entry {
	return api.Entry{Seq: seq, Priority: priority, Expiry: -1, Data: fmt.Append(nil, "entry ", seq)}
}

// turned is an entry of which something is changed.
func turned(e api.Entry, turn func(e *api.Entry)) api.Entry {
	e.Data = slices.Clone(e.Data)
	turn(&e)
	return e
}

func held(e api.Entry, holder int) api.Entry {
	return turned(e, func(e *api.Entry) { e.Holder = holder })
}

func counted(e api.Entry, count int) api.Entry {
	return turned(e, func(e *api.Entry) { e.Count = count })
}

func until(e api.Entry, expiry int) api.Entry {
	return turned(e, func(e *api.Entry) { e.Expiry = expiry })
}

// as is a message under another number, as it is among the dead ones.
func as(e api.Entry, seq, count int) api.Entry {
	return turned(e, func(e *api.Entry) { e.Seq, e.Count, e.Holder = seq, count, 0 })
}

// lasting is a durable queue, passing is one that is not.
func lasting(name string, most int) api.QueueConfig {
	return api.QueueConfig{Name: name, Most: most, Durable: true}
}

func passing(name string, most int) api.QueueConfig { return api.QueueConfig{Name: name, Most: most} }

// dying is a queue whose messages are dead behind so many tries.
func dying(c api.QueueConfig, dead string, tries int) api.QueueConfig {
	c.Dead, c.Tries = dead, tries
	return c
}

// What there is, as text; an empty list and none are the same there.

func toldEntry(e api.Entry) string {
	return fmt.Sprintf("%d/%d until %d durable %t count %d holder %d %s", e.Seq, e.Priority, e.Expiry, e.Durable, e.Count, e.Holder, brief(string(e.Data)))
}

func toldEntries(l []api.Entry) string {
	var s []string
	for _, e := range l {
		s = append(s, toldEntry(e))
	}
	return strings.Join(s, "; ")
}

// brief is a text, or what tells a long one from others.
func brief(s string) string {
	if len(s) > 200 {
		return fmt.Sprintf("%q.. (%d bytes, %08x)", s[:20], len(s), crc32.ChecksumIEEE([]byte(s)))
	}
	return fmt.Sprintf("%q", s)
}

// told is all that can be seen of a store.
func told(s calls) string {
	var b strings.Builder
	fmt.Fprintf(&b, "next %d, bindings %v", s.Next(), s.Bindings())
	for _, c := range s.Queues() {
		fmt.Fprintf(&b, "\n%+v: %s", c, toldEntries(s.Entries(c.Name)))
	}
	return b.String()
}

func toldFiles(l []api.File) string {
	var s []string
	for _, f := range l {
		s = append(s, fmt.Sprintf("%s:%q/%d", f.Name, f.Data, f.Safe))
	}
	return strings.Join(s, " ")
}

// seen is what can be seen of a disk.
func seen(d *disk.Disk) string { return fmt.Sprint(d.Up(), " ", toldFiles(d.Files())) }

// probed is what can be seen of a disk, and how many acts are still done on it, and with which keep it falls then.
func probed(d *disk.Disk) string {
	s := seen(d)
	for n := range 20 {
		if d.Append("probe", []byte("abc")) != api.OK {
			return s + fmt.Sprint(" ", n, " ", seen(d))
		}
	}
	return s + " never"
}

func safeFile(name, data string) api.File {
	return api.File{Name: name, Data: []byte(data), Safe: len(data)}
}

func loaded(t *testing.T, room int, files ...api.File) *disk.Disk {
	t.Helper()
	d, e := disk.Load(files, room)
	if d == nil || e != api.OK {
		t.Fatalf("Load(%s, %d): %d", toldFiles(files), room, e)
	}
	return d
}

// copied is another disk with the same files, up and not armed.
func copied(t *testing.T, d *disk.Disk) *disk.Disk {
	t.Helper()
	return loaded(t, maxDisk, d.Files()...)
}

// withLog is a disk whose log is these batches.
func withLog(t *testing.T, batches ...[]string) *disk.Disk {
	t.Helper()
	return loaded(t, maxDisk, safeFile("log", logOf(batches...)))
}

func opened(t *testing.T, d *disk.Disk) *store.Store {
	t.Helper()
	s, e := store.Open(d)
	if s == nil || e != api.OK {
		t.Fatalf("Open of %s: %v, %d", seen(d), s != nil, e)
	}
	return s
}

// made is a store on a new disk, behind these operations, as one batch.
func made(t *testing.T, ops ...api.Op) (*store.Store, *disk.Disk) {
	t.Helper()
	d := disk.New(maxDisk)
	s := opened(t, d)
	wantApply(t, s, ops...)
	return s, d
}

func wantErrno(t *testing.T, what string, got, want api.Errno) {
	t.Helper()
	if got != want {
		t.Fatalf("%s: %d, want %d", what, got, want)
	}
}

func wantOk(t *testing.T, got ...api.Errno) {
	t.Helper()
	for i, e := range got {
		if e != api.OK {
			t.Fatalf("call %d: %d, want OK", i, e)
		}
	}
}

// wantApply wants that all is done.
func wantApply(t *testing.T, s calls, ops ...api.Op) {
	t.Helper()
	if n, e := s.Apply(ops); n != 0 || e != api.OK {
		t.Fatalf("Apply: %d, %d, want 0, OK of %+v", n, e, ops)
	}
}

// wantRefused wants an error at a place, and that nothing has changed, neither in the store nor on its disk.
func wantRefused(t *testing.T, s calls, d *disk.Disk, place int, want api.Errno, ops ...api.Op) {
	t.Helper()
	before := told(s) + seen(d)
	if n, e := s.Apply(ops); n != place || e != want {
		t.Fatalf("Apply: %d, %d, want %d, %d of %+v", n, e, place, want, ops)
	}
	if after := told(s) + seen(d); after != before {
		t.Fatalf("refused, but: %s\nbefore: %s", after, before)
	}
}

func wantNext(t *testing.T, s calls, want int) {
	t.Helper()
	if got := s.Next(); got != want {
		t.Fatalf("Next: %d, want %d", got, want)
	}
}

func wantEntries(t *testing.T, s calls, queue string, want ...api.Entry) {
	t.Helper()
	if got := toldEntries(s.Entries(queue)); got != toldEntries(want) {
		t.Fatalf("Entries(%q): %s, want %s", queue, got, toldEntries(want))
	}
}

func wantQueues(t *testing.T, s calls, want ...api.QueueConfig) {
	t.Helper()
	if got := s.Queues(); !slices.Equal(got, want) {
		t.Fatalf("Queues: %+v, want %+v", got, want)
	}
}

func wantBindings(t *testing.T, s calls, want ...api.Binding) {
	t.Helper()
	if got := s.Bindings(); !slices.Equal(got, want) {
		t.Fatalf("Bindings: %v, want %v", got, want)
	}
}

// wantTaken wants that a holder takes this message, whatever it is.
func wantTaken(t *testing.T, s calls, queue string, holder, seq int) {
	t.Helper()
	e, is := s.Take(queue, holder, func(e api.Entry) bool { return e.Seq == seq })
	if !is || e.Seq != seq || e.Holder != holder {
		t.Fatalf("Take(%q, %d) of %d: %s, %t", queue, holder, seq, toldEntry(e), is)
	}
}

// wantLog wants a disk with a log of just these batches, all safe, and nothing else.
func wantLog(t *testing.T, d *disk.Disk, batches ...[]string) {
	t.Helper()
	if got, want := toldFiles(d.Files()), toldFiles([]api.File{safeFile("log", logOf(batches...))}); got != want {
		t.Fatalf("Files: %s, want %s", got, want)
	}
}

// wantNoFiles wants a disk on which nothing was written at all.
func wantNoFiles(t *testing.T, d *disk.Disk) {
	t.Helper()
	if len(d.Files()) > 0 {
		t.Fatalf("Files: %s, want none", seen(d))
	}
}

// behindFall is the store behind a fall of a copy of the disk.
func behindFall(t *testing.T, d *disk.Disk) *store.Store {
	t.Helper()
	c := copied(t, d)
	c.Crash(0)
	c.Start()
	return opened(t, c)
}

func wantTold(t *testing.T, what string, got, want calls) {
	t.Helper()
	if told(got) != told(want) {
		t.Fatalf("%s: %s\nwant %s", what, told(got), told(want))
	}
}

// keeps are how much of a tail may stay, at the edges of a batch and within it.
func keeps() []int { return []int{-1, 0, 1, 7, 8, 9, 20, 40, 1 << 62} }

// The helpers above see what they are to see.
func TestHelpersSee(t *testing.T) {
	full := func() []api.Op {
		return []api.Op{declare(lasting("q", 3)), declare(lasting("r", 3)), bind("a", "q"), put("q", durable(1, 4)), put("q", durable(2, 4))}
	}
	again := func(change func(ops []api.Op) []api.Op) string { s, _ := made(t, change(full())...); return told(s) }
	met := map[string]int{}
	for i, change := range []func(ops []api.Op) []api.Op{
		func(ops []api.Op) []api.Op { return ops },
		func(ops []api.Op) []api.Op { return ops[:4] },
		func(ops []api.Op) []api.Op { return append(ops[:4], put("r", durable(2, 4))) },
		func(ops []api.Op) []api.Op { return append(ops[:4], put("q", plain(2, 4))) },
		func(ops []api.Op) []api.Op { return append(ops[:4], put("q", durable(2, 5))) },
		func(ops []api.Op) []api.Op { return append(ops[:4], put("q", until(durable(2, 4), 0))) },
		func(ops []api.Op) []api.Op { return append(ops[:4], put("q", counted(durable(2, 4), 1))) },
		func(ops []api.Op) []api.Op { ops[4].Entry.Data = []byte("x"); return ops },
		func(ops []api.Op) []api.Op { return append(ops, put("q", durable(3, 4)), remove("q", 3)) },
		func(ops []api.Op) []api.Op { ops[2].Pattern = "b"; return ops },
		func(ops []api.Op) []api.Op { ops[2].Queue = "r"; return ops },
		func(ops []api.Op) []api.Op { ops[1].Config.Name = "s"; return ops },
		func(ops []api.Op) []api.Op { ops[1].Config.Most = 4; return ops },
		func(ops []api.Op) []api.Op { ops[1].Config.Dead = "q"; return ops },
		func(ops []api.Op) []api.Op { ops[1].Config.Tries = 1; return ops },
		func(ops []api.Op) []api.Op { ops[1].Config.Durable = false; return ops },
	} {
		if s := again(change); met[s] > 0 {
			t.Errorf("change %d is not seen: %s", i, s)
		} else {
			met[s]++
		}
	}
	if batch("a") != "\x00\x00\x00\x05\x51\x2e\x2b\x93\x00\x00\x00\x01a\x15\x6e\xc1\x93" || batch() != "" {
		t.Errorf("%q", batch("a"))
	}
	if got := movedRecord("q", 2, "d", 300, 1); got != "\xc0\x16\x06\x52\x08\xa1\x01q\x53\x02\xa1\x01d\x80\x00\x00\x00\x00\x00\x00\x01\x2c\x52\x01" {
		t.Errorf("%q", got)
	}
	if got := putRecord("q", until(durable(1, 9), maxTime)); got != "\xc0\x14\x06\x52\x05\xa1\x01q\x53\x01\x50\x09\x81\x00\x04\x00\x00\x00\x00\x00\x00\x43entry 1" {
		t.Errorf("%q", got)
	}
}
