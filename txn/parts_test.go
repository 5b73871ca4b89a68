package txn_test

import (
	"fmt"
	"strings"
	"testing"

	"longshore/api"
)

// P22.3 to P22.5: a transaction is known by its name and its owner, as long as it is open.
func TestWhichTransaction(t *testing.T) {
	b := example(t)
	for range 5 {
		b.open(t, 5)
	}
	wantErrno(t, "Discharge", b.x.Discharge("t2", 5, false), api.OK)
	wantErrno(t, "Discharge", b.x.Discharge("t3", 5, true), api.OK)
	b.puts(t, "t4", 5, "q", plain(0, 4), plain(0, 4))
	wantErrno(t, "Discharge", b.x.Discharge("t4", 5, false), api.ErrQueueFull)
	b.open(t, 6)
	b.x.Drop(6)
	for _, c := range []struct {
		id    string
		owner int
	}{
		{"t2", 5}, {"t3", 5}, {"t4", 5}, {"t6", 6}, {"t6", 5}, // discharged, dropped
		{"t1", 6}, {"t1", 0}, {"t1", -5}, {"t1", 5 + 1<<32}, // of another owner
		{"", 5}, {"t", 5}, {"1", 5}, {"T1", 5}, {"t01", 5}, {"t1 ", 5}, {" t1", 5}, {"t1\x00", 5}, {"t+1", 5}, {"t0", 5}, {"t7", 5}, {"t11", 5}, {strings.Repeat("t1", 5000), 5},
	} {
		what := fmt.Sprintf("%q of %d", brief(c.id), c.owner)
		b.stays(t, what, func() api.Errno { return b.x.Put(c.id, c.owner, "q", plain(0, 4)) }, api.ErrNoTxn)
		b.stays(t, what, func() api.Errno { return b.x.Done(c.id, c.owner, "q", 1, 7, accepted) }, api.ErrNoTxn)
		b.stays(t, what, func() api.Errno { return b.x.Discharge(c.id, c.owner, false) }, api.ErrNoTxn)
		b.stays(t, what, func() api.Errno { return b.x.Discharge(c.id, c.owner, true) }, api.ErrNoTxn)
		// ErrNoTxn stands ahead of all else.
		b.stays(t, what, func() api.Errno { return b.x.Put(c.id, c.owner, "x", plain(0, 10)) }, api.ErrNoTxn)
		b.stays(t, what, func() api.Errno { return b.x.Done(c.id, c.owner, "x", 9, 0, received) }, api.ErrNoTxn)
	}
	b.wantOpen(t, "t1", "t5")
	b.puts(t, "t1", 5, "q", plain(0, 4))
	b.done(t, "t5", 5, "q", 1, 7, accepted)
}

// P22.3: each bound of an entry, and one beyond; what is refused is no part.
func TestPutBounds(t *testing.T) {
	const word, time = maxWord, maxTime
	b := made(t, maxDisk, declare(lasting("q", 4096)))
	for _, c := range []struct {
		name string
		turn func(e *api.Entry)
		want api.Errno
	}{
		{"as it is", func(e *api.Entry) {}, api.OK},
		{"Priority -1", func(e *api.Entry) { e.Priority = -1 }, api.ErrEntry},
		{"Priority 0", func(e *api.Entry) { e.Priority = 0 }, api.OK},
		{"Priority 9", func(e *api.Entry) { e.Priority = 9 }, api.OK},
		{"Priority 10", func(e *api.Entry) { e.Priority = 10 }, api.ErrEntry},
		{"Priority far", func(e *api.Entry) { e.Priority = 1 << 40 }, api.ErrEntry},
		{"Expiry -2", func(e *api.Entry) { e.Expiry = -2 }, api.ErrEntry},
		{"Expiry far", func(e *api.Entry) { e.Expiry = -1 << 63 }, api.ErrEntry},
		{"Expiry -1", func(e *api.Entry) { e.Expiry = -1 }, api.OK},
		{"Expiry 0", func(e *api.Entry) { e.Expiry = 0 }, api.OK},
		{"Expiry greatest", func(e *api.Entry) { e.Expiry = time }, api.OK},
		{"Expiry too great", func(e *api.Entry) { e.Expiry = time + 1 }, api.ErrEntry},
		{"Count -1", func(e *api.Entry) { e.Count = -1 }, api.ErrEntry},
		{"Count 0", func(e *api.Entry) { e.Count = 0 }, api.OK},
		{"Count greatest", func(e *api.Entry) { e.Count = word }, api.OK},
		{"Count too great", func(e *api.Entry) { e.Count = word + 1 }, api.ErrEntry},
		{"Holder 1", func(e *api.Entry) { e.Holder = 1 }, api.ErrEntry},
		{"Holder -1", func(e *api.Entry) { e.Holder = -1 }, api.ErrEntry},
		{"Seq 0", func(e *api.Entry) { e.Seq = 0 }, api.OK},
		{"Seq -1", func(e *api.Entry) { e.Seq = -1 }, api.OK},
		{"Seq far", func(e *api.Entry) { e.Seq = 1<<63 - 1 }, api.OK},
		{"not durable", func(e *api.Entry) { e.Durable = false }, api.OK},
		{"Data none", func(e *api.Entry) { e.Data = nil }, api.OK},
		{"Data empty", func(e *api.Entry) { e.Data = []byte{} }, api.OK},
		{"Data greatest", func(e *api.Entry) { e.Data = make([]byte, maxMessage) }, api.OK},
		{"Data too great", func(e *api.Entry) { e.Data = make([]byte, maxMessage+1) }, api.ErrLong},
		{"Data and Priority", func(e *api.Entry) { e.Data, e.Priority = make([]byte, maxMessage+1), 10 }, api.ErrEntry},
		{"Data and Holder", func(e *api.Entry) { e.Data, e.Holder = make([]byte, maxMessage+1), 1 }, api.ErrEntry},
	} {
		id := b.open(t, 1)
		e := turned(durable(1000, 4), c.turn)
		b.stays(t, c.name, func() api.Errno { return b.x.Put(id, 1, "q", e) }, c.want)
		b.stays(t, c.name+", no queue", func() api.Errno { return b.x.Put(id, 1, "x", e) }, api.ErrNoQueue)
		next := b.s.Next()
		wantErrno(t, c.name, b.x.Discharge(id, 1, false), api.OK)
		if c.want != api.OK {
			b.wantEntries(t, "q")
			b.wantNext(t, next)
			continue
		}
		e.Seq = next
		b.wantEntries(t, "q", e)
		b.wantNext(t, next+1)
		b.apply(t, remove("q", next))
		if len(e.Data) == maxMessage {
			wantErrno(t, "Compact", b.s.Compact(), api.OK)
		}
	}
}

// P22.3 and P22.4: the queue must be there when it is said; whether it is full is not asked.
func TestQueues(t *testing.T) {
	b := made(t, maxDisk, declare(passing("q", 1)), put("q", plain(1, 4)))
	b.take(t, "q", 7, 1)
	id := b.open(t, 1)
	for _, queue := range []string{"", "x", "Q", "q ", "q\x00", "\xff", strings.Repeat("q", 65)} {
		b.stays(t, "no queue", func() api.Errno { return b.x.Put(id, 1, queue, plain(0, 4)) }, api.ErrNoQueue)
		b.stays(t, "no queue", func() api.Errno { return b.x.Done(id, 1, queue, 1, 7, accepted) }, api.ErrNoQueue)
	}
	b.stays(t, "a full queue", func() api.Errno { return b.x.Put(id, 1, "q", plain(0, 4)) }, api.OK)
	b.stays(t, "a full queue", func() api.Errno { return b.x.Put(id, 1, "q", plain(0, 4)) }, api.OK)
	b.apply(t, declare(passing("x", 1)))
	b.stays(t, "a new queue", func() api.Errno { return b.x.Put(id, 1, "x", plain(0, 4)) }, api.OK)
	b.apply(t, gone("x"))
	b.stays(t, "a queue that went", func() api.Errno { return b.x.Put(id, 1, "x", plain(0, 4)) }, api.ErrNoQueue)
	wantErrno(t, "Discharge", b.x.Discharge(id, 1, false), api.ErrQueueFull)
}

// P22.3 and P22.4: a transaction has 256 parts, of either kind; then ErrOps stands ahead of all but ErrNoTxn. What was refused is no part.
func TestMostParts(t *testing.T) {
	for _, puts := range []int{0, 1, 100, maxOps - 1, maxOps} {
		ops := []api.Op{declare(passing("q", maxQueue))}
		for i := range maxOps + 1 {
			ops = append(ops, put("q", plain(i+1, 4)))
		}
		b := made(t, maxDisk, ops...)
		for range maxOps + 1 {
			b.s.Take("q", 7, nil)
		}
		id, other := b.open(t, 1), b.open(t, 1)
		for i := range puts {
			b.puts(t, id, 1, "q", plain(0, 9))
			wantErrno(t, "no queue", b.x.Put(id, 1, "x", plain(0, 9)), map[bool]api.Errno{true: api.ErrNoQueue, false: api.ErrOps}[i+1 < maxOps])
		}
		for i := range maxOps - puts {
			b.done(t, id, 1, "q", i+1, 7, accepted)
		}
		for range 2 {
			b.stays(t, "Put", func() api.Errno { return b.x.Put(id, 1, "q", plain(0, 9)) }, api.ErrOps)
			b.stays(t, "Put of nothing", func() api.Errno { return b.x.Put(id, 1, "x", plain(0, 10)) }, api.ErrOps)
			b.stays(t, "Done", func() api.Errno { return b.x.Done(id, 1, "q", maxOps+1, 7, accepted) }, api.ErrOps)
			b.stays(t, "Done of nothing", func() api.Errno { return b.x.Done(id, 1, "x", 0, 0, received) }, api.ErrOps)
			b.stays(t, "of another owner", func() api.Errno { return b.x.Done(id, 2, "q", maxOps+1, 7, accepted) }, api.ErrNoTxn)
		}
		b.done(t, other, 1, "q", maxOps+1, 7, released)
		b.puts(t, other, 1, "q", plain(0, 9))
		wantErrno(t, "Discharge", b.x.Discharge(id, 1, false), api.OK)
		if n := len(b.s.Entries("q")); n != maxOps+1-(maxOps-puts)+puts {
			t.Errorf("%d puts: %d messages", puts, n)
		}
	}
}

// P22.4: which outcomes there are. Of other fields Failed alone counts, and of a modified one alone.
func TestOutcomes(t *testing.T) {
	rich := func(kind int) api.State {
		v := api.Value{Kind: api.Map, List: []api.Value{{Kind: api.Symbol, Text: "k"}, {Kind: 99}}}
		return api.State{Kind: kind, Section: -1, Offset: 7, Fault: api.Fault{Cond: "x", Text: "\xff", Info: v}, Elsewhere: true, Ann: v, Txn: "t9", Inner: []api.State{accepted, rejected}}
	}
	for kind := -1; kind < 300; kind++ {
		for _, s := range []api.State{{Kind: kind}, {Kind: kind, Failed: true}, rich(kind)} {
			b := made(t, maxDisk, declare(dying(passing("q", 3), "d", 2)), declare(passing("d", 3)), put("q", plain(1, 4)))
			b.take(t, "q", 7, 1)
			id := b.open(t, 1)
			want, q, d := api.ErrArg, held(plain(1, 4), 7), []api.Entry(nil)
			switch kind {
			case 36, 37, 38, 39:
				want, q = api.OK, plain(1, 4)
			}
			if kind == 39 && s.Failed {
				q.Count = 1
			}
			if kind == 37 {
				d = []api.Entry{as(plain(1, 4), 2, 0)}
			}
			b.stays(t, fmt.Sprint("kind ", kind), func() api.Errno { return b.x.Done(id, 1, "q", 1, 7, s) }, want)
			wantErrno(t, "Discharge", b.x.Discharge(id, 1, false), api.OK)
			if kind == 36 || kind == 37 {
				b.wantEntries(t, "q")
			} else {
				b.wantEntries(t, "q", q)
			}
			b.wantEntries(t, "d", d...)
		}
	}
	for _, kind := range []int{-1 << 63, 36 + 256, 36 + 1<<32, 1<<63 - 1} {
		b := example(t)
		id := b.open(t, 1)
		b.stays(t, "far", func() api.Errno { return b.x.Done(id, 1, "q", 1, 7, api.State{Kind: kind}) }, api.ErrArg)
	}
}

// P22.4: the order of errors.
func TestOrderOfErrors(t *testing.T) {
	b := example(t)
	id := b.open(t, 1)
	b.stays(t, "no outcome, no queue", func() api.Errno { return b.x.Done(id, 1, "x", 9, 7, received) }, api.ErrArg)
	b.stays(t, "no outcome, no message", func() api.Errno { return b.x.Done(id, 1, "q", 9, 7, received) }, api.ErrArg)
	b.stays(t, "no queue, no message", func() api.Errno { return b.x.Done(id, 1, "x", 9, 7, accepted) }, api.ErrNoQueue)
	b.stays(t, "no queue, no holder", func() api.Errno { return b.x.Done(id, 1, "x", 1, 0, accepted) }, api.ErrNoQueue)
	b.done(t, id, 1, "q", 1, 7, accepted)
	b.stays(t, "no outcome, done with", func() api.Errno { return b.x.Done(id, 1, "q", 1, 7, received) }, api.ErrArg)
	b.stays(t, "no queue, done with", func() api.Errno { return b.x.Done(id, 1, "d", 1, 7, accepted) }, api.ErrEntry)
}

// P22.4: the message must be there, in that queue, and held by that holder.
func TestWhichMessage(t *testing.T) {
	b := made(t, maxDisk, declare(lasting("q", 9)), declare(passing("r", 9)), put("q", durable(1, 4)), put("q", plain(2, 4)), put("q", durable(3, 9)), put("r", durable(4, 4)), put("r", durable(5, 4)))
	b.take(t, "q", 7, 1)
	b.take(t, "q", 8, 2)
	b.take(t, "r", 7, 4)
	b.take(t, "r", 1<<62, 5)
	id := b.open(t, 1)
	for _, c := range []struct {
		queue       string
		seq, holder int
	}{
		{"q", 1, 8}, {"q", 1, 0}, {"q", 1, -7}, {"q", 1, 7 + 1<<32}, {"q", 2, 7}, // another holder
		{"q", 3, 7}, {"q", 3, 0}, {"q", 3, -1}, {"q", 3, 1}, // a free one
		{"q", 0, 7}, {"q", -1, 7}, {"q", 6, 7}, {"q", 4, 7}, {"r", 1, 7}, {"q", 1 + 1<<32, 7}, {"r", 1<<63 - 1, 7}, // none, or in another queue
	} {
		b.stays(t, fmt.Sprintf("%+v", c), func() api.Errno { return b.x.Done(id, 1, c.queue, c.seq, c.holder, accepted) }, api.ErrEntry)
	}
	b.done(t, id, 1, "q", 1, 7, accepted)
	b.done(t, id, 1, "q", 2, 8, rejected)
	b.done(t, id, 1, "r", 4, 7, released)
	b.done(t, id, 1, "r", 5, 1<<62, modified)
	wantErrno(t, "Discharge", b.x.Discharge(id, 1, false), api.OK)
	b.wantEntries(t, "q", durable(3, 9))
	b.wantEntries(t, "r", durable(4, 4), durable(5, 4))
}

// P22.4: a message is done with once, in whichever open transaction, by whoever holds it; again, once that one is not open any more.
func TestDoneOnce(t *testing.T) {
	for name, end := range map[string]func(b *base, id string) api.Errno{
		"fail":  func(b *base, id string) api.Errno { return b.x.Discharge(id, 1, true) },
		"drop":  func(b *base, id string) api.Errno { b.x.Drop(1); return api.OK },
		"error": func(b *base, id string) api.Errno { return b.x.Discharge(id, 1, false) },
		"back":  func(b *base, id string) api.Errno { return b.x.Discharge(id, 1, false) },
	} {
		b := example(t)
		id, other := b.open(t, 1), b.open(t, 2)
		outcome, want := accepted, api.OK
		if name == "error" {
			b.puts(t, id, 1, "q", plain(0, 4), plain(0, 4), plain(0, 4))
			want = api.ErrQueueFull
		} else if name == "back" {
			outcome = released
		}
		b.done(t, id, 1, "q", 1, 7, outcome)
		twice := func(holder int) {
			t.Helper()
			for _, s := range []api.State{accepted, rejected, released, modified, failed} {
				b.stays(t, "in this one", func() api.Errno { return b.x.Done(id, 1, "q", 1, holder, s) }, api.ErrEntry)
				b.stays(t, "in another one", func() api.Errno { return b.x.Done(other, 2, "q", 1, holder, s) }, api.ErrEntry)
			}
		}
		twice(7)
		wantErrno(t, "Back", b.s.Back("q", 1, 7, false), api.OK)
		b.take(t, "q", 8, 1)
		twice(8)
		twice(7)
		wantErrno(t, "Back", b.s.Back("q", 1, 8, false), api.OK)
		b.take(t, "q", 7, 1)
		b.done(t, other, 2, "q", 2, 7, accepted)
		wantErrno(t, name, end(b, id), want)
		if name == "back" {
			b.take(t, "q", 7, 1)
		}
		b.done(t, other, 2, "q", 1, 7, accepted)
		wantErrno(t, "Discharge", b.x.Discharge(other, 2, false), api.OK)
		b.wantEntries(t, "q")
	}
}

// P22.4: a part that was refused bars nobody.
func TestRefusedDoneBarsNobody(t *testing.T) {
	b := example(t)
	id, other := b.open(t, 1), b.open(t, 2)
	b.stays(t, "another holder", func() api.Errno { return b.x.Done(id, 1, "q", 1, 8, accepted) }, api.ErrEntry)
	b.stays(t, "no outcome", func() api.Errno { return b.x.Done(id, 1, "q", 1, 7, received) }, api.ErrArg)
	b.done(t, other, 2, "q", 1, 7, accepted)
	b.done(t, id, 1, "q", 2, 7, accepted)
}

// What is in an open transaction is not seen in the store, whatever comes between; messages that it is done with stay with their holders.
func TestNothingIsSeen(t *testing.T) {
	b := example(t)
	b.apply(t, declare(passing("r", 5)))
	ids := []string{b.open(t, 1), b.open(t, 2)}
	for range 20 {
		for i, id := range ids {
			b.stays(t, "Put", func() api.Errno { return b.x.Put(id, i+1, "q", durable(0, 9)) }, api.OK)
			b.stays(t, "Put", func() api.Errno { return b.x.Put(id, i+1, "r", plain(0, 9)) }, api.OK)
		}
	}
	b.stays(t, "Done", func() api.Errno { return b.x.Done(ids[0], 1, "q", 1, 7, accepted) }, api.OK)
	b.stays(t, "Done", func() api.Errno { return b.x.Done(ids[1], 2, "q", 2, 7, failed) }, api.OK)
	if _, is := b.s.Take("q", 9, nil); is {
		t.Error("a message of an open transaction is free")
	}
	b.wantNext(t, 3)
	b.apply(t, put("q", durable(3, 4)))
	if e, is := b.s.Take("q", 9, nil); !is || e.Seq != 3 {
		t.Errorf("%s, %t", toldEntry(e), is)
	}
}
