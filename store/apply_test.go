package store_test

import (
	"fmt"
	"slices"
	"strings"
	"testing"

	"longshore/api"
	"longshore/disk"
)

// busy is a store in which there is something of all: durable queues and others, bindings, messages that are written and such as are not, free and held.
func busy(t *testing.T) (*disk.Disk, calls) {
	t.Helper()
	d := disk.New(maxDisk)
	s := opened(t, d)
	wantApply(t, s, busyOps()...)
	wantTaken(t, s, "q", 7, 2)
	wantTaken(t, s, "p", 7, 5)
	return d, s
}

func busyOps() []api.Op {
	return []api.Op{
		declare(dying(lasting("q", 4), "r", 2)), declare(lasting("r", 9)), declare(dying(passing("p", 3), "r", 2)),
		bind("a", "q"), bind("a.*", "r"), bind("a", "p"),
		put("q", durable(1, 4)), put("q", durable(2, 4)), put("q", plain(3, 4)), put("p", durable(4, 4)), put("p", plain(5, 4)),
	}
}

// busyRecords are the records of what is written of it.
func busyRecords() []string {
	return []string{
		madeRecord(dying(lasting("q", 4), "r", 2)), madeRecord(lasting("r", 9)),
		boundRecord("a", "q"), boundRecord("a.*", "r"),
		putRecord("q", durable(1, 4)), putRecord("q", durable(2, 4)),
	}
}

// P21.2: of no operation nothing is done.
func TestApplyOfNothing(t *testing.T) {
	d, s := busy(t)
	before := told(s) + seen(d)
	wantApply(t, s)
	wantApply(t, s, []api.Op{}...)
	if after := told(s) + seen(d); after != before {
		t.Errorf("%s, before: %s", after, before)
	}
	s, d = made(t)
	wantApply(t, s)
	wantNoFiles(t, d)
}

// P21.2: each Kind does what the table says, and writes just its record, where what it is done to is written.
func TestKinds(t *testing.T) {
	type change func(queues map[string][]api.Entry, binds []api.Binding) []api.Binding
	here := func() (map[string][]api.Entry, []api.Binding) {
		return map[string][]api.Entry{"q": {durable(1, 4), held(durable(2, 4), 7), plain(3, 4)}, "r": nil, "p": {durable(4, 4), held(plain(5, 4), 7)}},
			[]api.Binding{{Pattern: "a", Queue: "p"}, {Pattern: "a", Queue: "q"}, {Pattern: "a.*", Queue: "r"}}
	}
	without := func(queue string) change {
		return func(m map[string][]api.Entry, b []api.Binding) []api.Binding {
			delete(m, queue)
			return slices.DeleteFunc(b, func(b api.Binding) bool { return b.Queue == queue })
		}
	}
	comes := func(queue string, e api.Entry) change {
		return func(m map[string][]api.Entry, b []api.Binding) []api.Binding {
			m[queue] = append(m[queue], e)
			return b
		}
	}
	goes := func(queue string, seq int) change {
		return func(m map[string][]api.Entry, b []api.Binding) []api.Binding {
			m[queue] = slices.DeleteFunc(m[queue], func(e api.Entry) bool { return e.Seq == seq })
			return b
		}
	}
	bound := func(at int, pattern, queue string) change {
		return func(m map[string][]api.Entry, b []api.Binding) []api.Binding {
			return slices.Insert(b, at, api.Binding{Pattern: pattern, Queue: queue})
		}
	}
	unbound := func(at int) change {
		return func(m map[string][]api.Entry, b []api.Binding) []api.Binding { return slices.Delete(b, at, at+1) }
	}
	empty := func(queue string) change {
		return func(m map[string][]api.Entry, b []api.Binding) []api.Binding { m[queue] = nil; return b }
	}
	for i, c := range []struct {
		op     api.Op
		change change
		next   int
		record string // none: ""
	}{
		{declare(lasting("n", 5)), empty("n"), 6, madeRecord(lasting("n", 5))},
		{declare(dying(lasting("n", maxQueue), "none", maxWord)), empty("n"), 6, madeRecord(dying(lasting("n", maxQueue), "none", maxWord))},
		{declare(passing("n", 5)), empty("n"), 6, ""},
		{gone("q"), without("q"), 6, goneRecord("q")},
		{gone("r"), without("r"), 6, goneRecord("r")},
		{gone("p"), without("p"), 6, ""},
		{bind("b", "q"), bound(3, "b", "q"), 6, boundRecord("b", "q")},
		{bind("a", "r"), bound(2, "a", "r"), 6, boundRecord("a", "r")},
		{bind("#", "p"), bound(0, "#", "p"), 6, ""},
		{unbind("a", "q"), unbound(1), 6, unboundRecord("a", "q")},
		{unbind("a", "p"), unbound(0), 6, ""},
		{put("q", durable(6, 4)), comes("q", durable(6, 4)), 7, putRecord("q", durable(6, 4))},
		{put("r", counted(until(durable(6, 9), 700), 3)), comes("r", counted(until(durable(6, 9), 700), 3)), 7, putRecord("r", counted(until(durable(6, 9), 700), 3))},
		{put("q", plain(6, 4)), comes("q", plain(6, 4)), 7, ""},
		{put("p", durable(6, 4)), comes("p", durable(6, 4)), 7, ""},
		{put("p", plain(6, 4)), comes("p", plain(6, 4)), 7, ""},
		{remove("q", 1), goes("q", 1), 6, removedRecord("q", 1)},
		{remove("q", 2), goes("q", 2), 6, removedRecord("q", 2)}, // it is held
		{remove("q", 3), goes("q", 3), 6, ""},
		{remove("p", 4), goes("p", 4), 6, ""},
		{remove("p", 5), goes("p", 5), 6, ""}, // it is held
	} {
		d, s := busy(t)
		wantApply(t, s, c.op)
		m, b := here()
		b = c.change(m, b)
		wantBindings(t, s, b...)
		if n := len(s.Queues()); n != len(m) {
			t.Fatalf("line %d: %d queues, want %d", i, n, len(m))
		}
		for queue, l := range m {
			wantEntries(t, s, queue, l...)
		}
		wantNext(t, s, c.next)
		if c.record == "" {
			wantLog(t, d, busyRecords())
		} else {
			wantLog(t, d, busyRecords(), []string{c.record})
		}
	}
}

// P21.2: what else an operation has is not looked at.
func TestElseIsNotLookedAt(t *testing.T) {
	for _, c := range []struct {
		op   api.Op
		kept func(op api.Op) api.Op
	}{
		{declare(lasting("n", 5)), func(op api.Op) api.Op { return api.Op{Kind: op.Kind, Config: op.Config} }},
		{declare(passing("n", 5)), func(op api.Op) api.Op { return api.Op{Kind: op.Kind, Config: op.Config} }},
		{gone("q"), func(op api.Op) api.Op { return api.Op{Kind: op.Kind, Queue: op.Queue} }},
		{bind("b", "q"), func(op api.Op) api.Op { return bind(op.Pattern, op.Queue) }},
		{unbind("a", "q"), func(op api.Op) api.Op { return unbind(op.Pattern, op.Queue) }},
		{put("q", durable(6, 4)), func(op api.Op) api.Op { return put(op.Queue, op.Entry) }},
		{remove("q", 1), func(op api.Op) api.Op { return remove(op.Queue, op.Seq) }},
	} {
		d, s := busy(t)
		wantApply(t, s, c.op)
		for _, other := range []api.Op{
			{Kind: 99, Queue: "x", To: "x", Config: passing("X", -1), Pattern: "..", Seq: -9, Count: -9, Entry: held(plain(-1, 99), -3)},
			{Kind: 6, Queue: "p", To: "p", Config: lasting("r", 1), Pattern: "a", Seq: 4, Count: 1, Entry: durable(6, 4)},
		} {
			if c.kept(c.op).Config != (api.QueueConfig{}) {
				other.Config = c.op.Config
			}
			other.Kind = c.op.Kind
			if c.op.Kind != 1 {
				other.Queue = c.op.Queue
			}
			if c.op.Kind == 3 || c.op.Kind == 4 {
				other.Pattern = c.op.Pattern
			}
			if c.op.Kind == 5 {
				other.Entry = c.op.Entry
			}
			if c.op.Kind == 6 {
				other.Seq = c.op.Seq
			}
			twin, u := busy(t)
			wantApply(t, u, other)
			if told(u)+seen(twin) != told(s)+seen(d) {
				t.Errorf("%+v: %s, %s\nwant %s, %s", other, told(u), seen(twin), told(s), seen(d))
			}
		}
	}
}

// P21.2: each error of each Kind, by itself and with others that come behind it; nothing has changed.
func TestErrorsOfApply(t *testing.T) {
	long := strings.Repeat("n", maxName+1)
	big := turned(durable(6, 4), func(e *api.Entry) { e.Data = make([]byte, maxMessage+1) })
	for _, c := range []struct {
		want api.Errno
		ops  []api.Op
	}{
		{api.ErrQueue, []api.Op{declare(lasting("", 1)), declare(passing("N", 1)), declare(passing(long, 1)), declare(passing("n", 0)), declare(passing("n", maxQueue+1)), declare(dying(passing("n", 1), "n", 0)), declare(dying(passing("n", 1), "D", 0)), declare(dying(passing("n", 1), "", -1)), declare(dying(passing("n", 1), "", maxWord+1)),
			declare(passing("q", 0)), declare(lasting("q", -1)), {Kind: 1}}},
		{api.ErrThere, []api.Op{declare(lasting("q", 1)), declare(passing("q", 1)), declare(passing("p", 3)), declare(lasting("p", 3))}},
		{api.ErrNoQueue, []api.Op{gone("x"), gone(""), gone("Q"), gone(long), bind("a", "x"), bind("..", "x"), bind("a", ""), bind("a", "X"), unbind("a", "x"), unbind("", "x"), put("x", durable(6, 4)), put("x", durable(9, 99)), put("", durable(6, 4)), remove("x", 1), remove("", 0)}},
		{api.ErrPattern, []api.Op{bind("", "q"), bind("A", "q"), bind("#.#.#", "p"), bind("a..b", "r"), bind("a.", "q")}},
		{api.ErrBound, []api.Op{bind("a", "q"), bind("a.*", "r"), bind("a", "p")}},
		{api.ErrUnbound, []api.Op{unbind("a", "r"), unbind("b", "q"), unbind("", "q"), unbind("A..", "p")}},
		{api.ErrEntry, []api.Op{put("q", durable(5, 4)), put("q", durable(7, 4)), put("q", durable(0, 4)), put("q", durable(-6, 4)), put("r", plain(1, 4)), put("q", durable(6, 10)), put("q", durable(6, -1)), put("q", until(durable(6, 4), -2)), put("p", until(durable(6, 4), maxTime+1)), put("q", counted(durable(6, 4), -1)), put("q", counted(durable(6, 4), maxWord+1)), put("q", held(durable(6, 4), 1)), put("p", held(durable(6, 4), -1)),
			turnedPut(big, 7, 4), turnedPut(big, 6, 10)}},
		{api.ErrLong, []api.Op{put("q", big), put("p", big)}},
		{api.ErrEntry, []api.Op{remove("q", 0), remove("q", 4), remove("q", 6), remove("q", -1), remove("q", 1<<62), remove("r", 1), remove("p", 1), {Kind: 6, Queue: "q", Entry: durable(1, 4)}}},
		{api.ErrOp, []api.Op{{}, {Kind: 7}, {Kind: 8}, {Kind: 9}, {Kind: -1}, {Kind: 1 << 62}, {Kind: -1 << 63}, {Kind: 1<<32 + 5}, {Kind: 7, Queue: "q", Seq: 1, Count: 1}, {Kind: 8, Queue: "q", Seq: 1, To: "r", Entry: durable(6, 4)}, {Kind: 0, Queue: "x"}}},
	} {
		d, s := busy(t)
		for _, op := range c.ops {
			wantRefused(t, s, d, 0, c.want, op)
			wantRefused(t, s, d, 2, c.want, put("r", durable(6, 4)), remove("r", 6), withNext(op, 6, 7))
			wantRefused(t, s, d, 1, c.want, declare(lasting("ahead", 1)), op, api.Op{}, gone("x"))
		}
	}
}

func turnedPut(e api.Entry, seq, priority int) api.Op {
	e.Seq, e.Priority = seq, priority
	return put("q", e)
}

// withNext is an operation behind puts: what was to be put as the next one is so still.
func withNext(op api.Op, was, is int) api.Op {
	switch op.Entry.Seq {
	case was:
		op.Entry.Seq = is
	case is:
		op.Entry.Seq = was
	}
	return op
}

// P21.2: an ErrQueueFull, held ones counted; ahead of it an entry that may not be, and too many bytes.
func TestFullQueue(t *testing.T) {
	d, s := busy(t)
	wantApply(t, s, put("q", plain(6, 4)), put("p", durable(7, 4)))
	big := turned(durable(8, 4), func(e *api.Entry) { e.Data = make([]byte, maxMessage+1) })
	for _, queue := range []string{"q", "p"} {
		wantRefused(t, s, d, 0, api.ErrQueueFull, put(queue, durable(8, 4)))
		wantRefused(t, s, d, 0, api.ErrQueueFull, put(queue, plain(8, 4)))
		wantRefused(t, s, d, 0, api.ErrEntry, put(queue, durable(9, 4)))
		wantRefused(t, s, d, 0, api.ErrEntry, put(queue, durable(8, 10)))
		wantRefused(t, s, d, 0, api.ErrLong, put(queue, big))
		wantRefused(t, s, d, 1, api.ErrQueueFull, put("r", durable(8, 4)), put(queue, durable(9, 4)))
	}
	wantApply(t, s, remove("q", 2), put("q", durable(8, 4)))
	wantRefused(t, s, d, 2, api.ErrQueueFull, remove("q", 1), put("q", durable(9, 4)), put("q", durable(10, 4)))
	great := turned(durable(9, 4), func(e *api.Entry) { e.Data = make([]byte, maxMessage) })
	wantApply(t, s, put("r", great))
	wantEntries(t, s, "r", great)
}

// P21.2: there are no more than 64 queues, and no more than 256 bindings; an ErrThere, an ErrQueue, an ErrBound goes ahead.
func TestLimits(t *testing.T) {
	var ops []api.Op
	for i := range maxQueues {
		ops = append(ops, declare(api.QueueConfig{Name: fmt.Sprint("n", i), Most: 1, Durable: i%2 == 0}))
	}
	s, d := made(t)
	wantRefused(t, s, d, 64, api.ErrLong, append(ops, declare(lasting("more", 1)))...)
	wantApply(t, s, ops...)
	wantRefused(t, s, d, 0, api.ErrLong, declare(lasting("more", 1)))
	wantRefused(t, s, d, 0, api.ErrLong, declare(passing("more", 1)))
	wantRefused(t, s, d, 0, api.ErrThere, declare(lasting("n3", 1)))
	wantRefused(t, s, d, 0, api.ErrQueue, declare(lasting("more", 0)))
	wantRefused(t, s, d, 2, api.ErrLong, gone("n3"), declare(lasting("more", 1)), declare(lasting("n3", 1)))
	wantApply(t, s, gone("n3"), declare(lasting("more", 1)))
	wantRefused(t, s, d, 0, api.ErrLong, declare(lasting("n3", 1)))

	ops = nil
	for i := range maxBinds {
		ops = append(ops, bind(fmt.Sprint("p", i), fmt.Sprint("n", 4+i%3)))
	}
	wantRefused(t, s, d, 256, api.ErrBinds, append(ops, bind("more", "n6"))...)
	wantApply(t, s, ops...)
	wantRefused(t, s, d, 0, api.ErrBinds, bind("more", "n6"))
	wantRefused(t, s, d, 0, api.ErrBound, bind("p0", "n4"))
	wantRefused(t, s, d, 0, api.ErrPattern, bind("", "n4"))
	wantApply(t, s, unbind("p7", "n5"), bind("more", "n6"))
	wantApply(t, s, gone("n4"), bind("more", "n5"))
	if n := len(s.Bindings()); n != 256-86+1 {
		t.Errorf("%d bindings", n)
	}
}

// P21.2: the next number goes up to 2^62, and then nothing is put any more: ErrLong, ahead of ErrEntry.
func TestLastNumber(t *testing.T) {
	d := withLog(t, []string{madeRecord(dying(lasting("q", 9), "d", 1)), madeRecord(lasting("d", 9)), putRecord("q", durable(lastSeq-2, 4))})
	s := opened(t, d)
	wantNext(t, s, lastSeq-1)
	wantRefused(t, s, d, 2, api.ErrLong, put("q", durable(lastSeq-1, 4)), put("q", plain(lastSeq, 4)), put("q", durable(lastSeq+1, 4)))
	wantRefused(t, s, d, 2, api.ErrLong, put("q", durable(lastSeq-1, 4)), put("q", plain(lastSeq, 4)), put("q", durable(5, 4)))
	wantApply(t, s, put("q", durable(lastSeq-1, 4)), put("q", durable(lastSeq, 4)))
	wantNext(t, s, lastSeq+1)
	for _, n := range []int{lastSeq + 1, lastSeq, 1, 0, -1} {
		wantRefused(t, s, d, 0, api.ErrLong, put("q", durable(n, 99)))
		wantRefused(t, s, d, 0, api.ErrNoQueue, put("x", durable(n, 4)))
	}
	u := behindFall(t, d)
	wantTold(t, "behind a restart", u, s)
	wantApply(t, s, remove("q", lastSeq))
	wantNext(t, s, lastSeq+1)
	wantRefused(t, s, d, 0, api.ErrLong, put("q", durable(lastSeq, 4)))
}

// P21.2: each operation is looked at against the store as it would be behind those ahead of it; a refused one behind others lets nothing of them be done.
func TestBehindThoseAhead(t *testing.T) {
	n := lasting("n", 1)
	for i, c := range []struct {
		ops   []api.Op
		place int
		want  api.Errno
	}{
		{[]api.Op{declare(n), put("n", durable(6, 4)), bind("a", "n"), remove("n", 6), put("n", durable(7, 4)), unbind("a", "n"), gone("n"), declare(n), bind("a", "n")}, 0, api.OK},
		{[]api.Op{put("n", durable(6, 4)), declare(n)}, 0, api.ErrNoQueue},
		{[]api.Op{bind("a", "n"), declare(n)}, 0, api.ErrNoQueue},
		{[]api.Op{declare(n), declare(n)}, 1, api.ErrThere},
		{[]api.Op{declare(n), declare(passing("n", 2))}, 1, api.ErrThere},
		{[]api.Op{declare(n), put("n", durable(6, 4)), put("n", durable(7, 4))}, 2, api.ErrQueueFull},
		{[]api.Op{declare(n), put("n", durable(6, 4)), remove("n", 6), remove("n", 6)}, 3, api.ErrEntry},
		{[]api.Op{declare(n), bind("a", "n"), bind("a", "n")}, 2, api.ErrBound},
		{[]api.Op{declare(n), bind("a", "n"), unbind("a", "n"), unbind("a", "n")}, 3, api.ErrUnbound},
		{[]api.Op{gone("q"), put("q", durable(6, 4))}, 1, api.ErrNoQueue},
		{[]api.Op{gone("q"), remove("q", 1)}, 1, api.ErrNoQueue},
		{[]api.Op{gone("q"), gone("q")}, 1, api.ErrNoQueue},
		{[]api.Op{gone("q"), unbind("a", "q")}, 1, api.ErrNoQueue},
		{[]api.Op{gone("q"), declare(lasting("q", 1)), remove("q", 1)}, 2, api.ErrEntry},
		{[]api.Op{gone("q"), declare(lasting("q", 1)), unbind("a", "q")}, 2, api.ErrUnbound},
		{[]api.Op{gone("q"), declare(lasting("q", 1)), bind("a", "q"), put("q", durable(6, 4))}, 0, api.OK},
		{[]api.Op{put("q", durable(6, 4)), put("q", durable(7, 4))}, 1, api.ErrQueueFull},
		{[]api.Op{put("q", durable(6, 4)), remove("q", 2), put("q", durable(7, 4))}, 0, api.OK},
		{[]api.Op{put("q", durable(6, 4)), remove("q", 6), put("q", durable(7, 4)), remove("q", 7)}, 0, api.OK},
		{[]api.Op{put("q", durable(6, 4)), remove("q", 6), remove("q", 6)}, 2, api.ErrEntry},
		{[]api.Op{remove("q", 1), remove("q", 1)}, 1, api.ErrEntry},
		{[]api.Op{remove("q", 1), remove("q", 2), remove("q", 3), remove("q", 1)}, 3, api.ErrEntry},
		{[]api.Op{put("q", durable(6, 4)), put("r", durable(6, 4))}, 1, api.ErrEntry},
		{[]api.Op{put("q", durable(6, 4)), put("r", durable(8, 4))}, 1, api.ErrEntry},
		{[]api.Op{put("q", durable(6, 4)), put("r", durable(7, 4)), put("p", durable(8, 4))}, 0, api.OK},
		{[]api.Op{put("q", durable(6, 4)), remove("r", 6)}, 1, api.ErrEntry},
		{[]api.Op{put("q", durable(6, 4)), gone("q"), put("r", durable(7, 4)), {Kind: 7}}, 3, api.ErrOp},
		{[]api.Op{unbind("a", "q"), bind("a", "q"), unbind("a", "q"), bind("b", "q")}, 0, api.OK},
	} {
		d, s := busy(t)
		if c.want != api.OK {
			wantRefused(t, s, d, c.place, c.want, c.ops...)
			_, u := busy(t)
			wantSameThen(t, fmt.Sprint("line ", i), s, u)
			continue
		}
		wantApply(t, s, c.ops...)
		wantOk(t, s.Release(7))
		whole, _ := made(t, append(busyOps(), c.ops...)...)
		wantTold(t, fmt.Sprint("line ", i, ", all in one batch"), whole, s)
		wantTold(t, fmt.Sprint("line ", i, ", one by one"), oneByOne(t, c.ops), s)
	}
}

// wantSameThen wants that one store goes on as another one does.
func wantSameThen(t *testing.T, what string, s, u calls) {
	t.Helper()
	for _, c := range []calls{s, u} {
		wantApply(t, c, put("q", durable(6, 4)), remove("q", 3), bind("b", "q"), declare(passing("n", 2)), put("n", plain(7, 4)))
		wantOk(t, c.Release(7))
		wantTaken(t, c, "q", 8, 1)
		wantOk(t, c.Bury("q", 1, 8), c.Compact())
	}
	wantTold(t, what, s, u)
}

// oneByOne is a busy store, all free, behind operations that were each a batch.
func oneByOne(t *testing.T, ops []api.Op) calls {
	t.Helper()
	_, s := busy(t)
	for _, op := range ops {
		wantApply(t, s, op)
	}
	wantOk(t, s.Release(7))
	return s
}

// P21.2: the records of one batch, in the operations' order, those alone that matter to what is written: byte for byte.
func TestWhatIsWritten(t *testing.T) {
	n := dying(lasting("n", 300), "q", 70000)
	for i, c := range []struct {
		ops  []api.Op
		want []string
	}{
		{[]api.Op{declare(n)}, []string{madeRecord(n)}},
		{[]api.Op{put("q", durable(6, 4)), put("p", durable(7, 4)), put("r", durable(8, 4)), put("r", plain(9, 4)), remove("q", 6), remove("q", 3), remove("r", 9)},
			[]string{putRecord("q", durable(6, 4)), putRecord("r", durable(8, 4)), removedRecord("q", 6)}},
		{[]api.Op{gone("q"), declare(passing("q", 5)), put("q", durable(6, 4)), bind("a", "q"), remove("q", 6), gone("q"), declare(lasting("q", 5)), put("q", durable(7, 4)), bind("a", "q")},
			[]string{goneRecord("q"), madeRecord(lasting("q", 5)), putRecord("q", durable(7, 4)), boundRecord("a", "q")}},
		{[]api.Op{gone("p"), declare(lasting("p", 5)), put("p", durable(6, 4)), remove("p", 6), unbind("a", "q"), bind("a", "p"), unbind("a", "p")},
			[]string{madeRecord(lasting("p", 5)), putRecord("p", durable(6, 4)), removedRecord("p", 6), unboundRecord("a", "q"), boundRecord("a", "p"), unboundRecord("a", "p")}},
		{[]api.Op{put("q", turned(durable(6, 0), func(e *api.Entry) { e.Data, e.Expiry, e.Count = nil, 128, 256 })), remove("q", 1)},
			[]string{"\xc0\x18\x06\x52\x05\xa1\x01q\x53\x06\x50\x00\x81\x00\x00\x00\x00\x00\x00\x00\x80\x70\x00\x00\x01\x00", "\xc0\x08\x03\x52\x06\xa1\x01q\x53\x01"}},
		{[]api.Op{put("p", durable(6, 4)), put("q", plain(7, 4)), remove("p", 4), remove("p", 5), unbind("a", "p"), bind("b", "p"), gone("p"), declare(passing("p", 1)), remove("q", 7)}, nil},
	} {
		d, s := busy(t)
		wantApply(t, s, c.ops...)
		if c.want == nil {
			wantLog(t, d, busyRecords())
		} else {
			wantLog(t, d, busyRecords(), c.want)
		}
		if t.Failed() {
			t.Fatalf("line %d", i)
		}
		wantLasting(t, s, behindFall(t, d))
	}
	s, d := made(t, declare(passing("p", 5)), bind("a", "p"), put("p", durable(1, 4)), put("p", plain(2, 4)), remove("p", 1), unbind("a", "p"), gone("p"))
	wantNoFiles(t, d)
	wantNext(t, s, 3)
}

// wantLasting wants that of a store that is free of failed deliveries just what is written is there in another one; but for the next number.
func wantLasting(t *testing.T, s, behind calls) {
	t.Helper()
	var queues []api.QueueConfig
	for _, c := range s.Queues() {
		if !c.Durable {
			continue
		}
		queues = append(queues, c)
		var l []api.Entry
		for _, e := range s.Entries(c.Name) {
			if e.Durable {
				l = append(l, held(e, 0))
			}
		}
		wantEntries(t, behind, c.Name, l...)
	}
	wantQueues(t, behind, queues...)
	var binds []api.Binding
	for _, b := range s.Bindings() {
		if slices.ContainsFunc(queues, func(c api.QueueConfig) bool { return c.Name == b.Queue }) {
			binds = append(binds, b)
		}
	}
	wantBindings(t, behind, binds...)
}

// P21.2: the disk full, and the power failing in each act: the journal's error, the place 0, and nothing has changed; what is opened then has the batch, or has it not.
func TestJournalFails(t *testing.T) {
	ops := []api.Op{put("r", plain(6, 4)), put("q", durable(7, 4)), remove("q", 1), gone("p"), bind("b", "r"), declare(lasting("n", 1)), declare(passing("m", 1))}
	records := []string{putRecord("q", durable(7, 4)), removedRecord("q", 1), boundRecord("b", "r"), madeRecord(lasting("n", 1))}
	size := len(logOf(busyRecords())) + len(batch(records...))
	for _, room := range []int{size - 1, size} {
		d := disk.New(room)
		s := opened(t, d)
		wantApply(t, s, busyOps()...)
		wantTaken(t, s, "q", 7, 2)
		if room < size {
			wantRefused(t, s, d, 0, api.ErrDiskFull, ops...)
			wantRefused(t, s, d, 6, api.ErrThere, append(ops[:6:6], declare(passing("q", 1)))...)
			wantApply(t, s, put("q", plain(6, 4)), remove("q", 1), remove("p", 5))
			continue
		}
		wantApply(t, s, ops...)
		wantLog(t, d, busyRecords(), records)
	}
	for acts := range 2 {
		for _, keep := range keeps() {
			d, s := busy(t)
			d.Arm(acts, keep)
			wantRefusedDown(t, s, ops...)
			_, want := busy(t)
			if keep >= len(batch(records...)) {
				wantApply(t, want, ops...)
			}
			wantLasting(t, want, opened(t, copied(t, d)))
			d.Start()
			wantRefusedDown(t, s, ops...)
		}
	}
	d, s := busy(t)
	d.Arm(2, 0)
	wantApply(t, s, ops...)
	wantErrno(t, "the third act", d.Delete("log"), api.ErrDown)
}

// P21.2: an operation on what is not written needs no room, and no power but that the disk is up: nothing is done to it.
func TestNoActs(t *testing.T) {
	d, s := busy(t)
	before := seen(d)
	d.Arm(0, 0)
	wantApply(t, s, put("p", durable(6, 4)), put("q", plain(7, 4)), remove("q", 3), declare(passing("n", 2)), bind("b", "n"), gone("p"))
	wantApply(t, s)
	if seen(d) != before {
		t.Errorf("%s, before: %s", seen(d), before)
	}
	wantErrno(t, "an act", d.Sync("log"), api.ErrDown)
}

// P21.2: a message that went can't be taken, given back or buried, whoever held it; a queue that went and was made again is a new one.
func TestGoneIsGone(t *testing.T) {
	_, s := busy(t)
	wantApply(t, s, remove("q", 2))
	wantErrno(t, "Back", s.Back("q", 2, 7, false), api.ErrEntry)
	wantErrno(t, "Bury", s.Bury("q", 2, 7), api.ErrEntry)
	wantApply(t, s, gone("p"))
	wantErrno(t, "Back", s.Back("p", 5, 7, false), api.ErrNoQueue)
	wantApply(t, s, declare(dying(passing("p", 2), "", 1)))
	wantErrno(t, "Back", s.Back("p", 5, 7, false), api.ErrEntry)
	wantOk(t, s.Release(7))
	wantEntries(t, s, "p")
	wantMatch(t, s, "a", "q")
	wantApply(t, s, put("p", plain(6, 4)))
	wantTaken(t, s, "p", 8, 6)
	wantEntries(t, s, "q", durable(1, 4), plain(3, 4))
}
