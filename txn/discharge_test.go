package txn_test

import (
	"fmt"
	"testing"

	"longshore/api"
	"longshore/codec"
	"longshore/disk"
	"longshore/journal"
	"longshore/sample"
	"longshore/value"
)

// part is a part of a transaction: of a message to be put, or of one that holder 7 is done with.
type part struct {
	queue   string
	seq     int
	outcome api.State
	e       api.Entry
}

// puts is a part that puts, ends is one that is done with a message.
func puts(queue string, e api.Entry) part { return part{queue: queue, e: e} }

func ends(queue string, seq int, outcome api.State) part {
	return part{queue: queue, seq: seq, outcome: outcome}
}

// backs is what is to follow the batch.
type backs struct {
	queue  string
	seq    int
	failed bool
}

// discharged is the answer of a transaction of these parts.
func (b *base) discharged(t *testing.T, parts ...part) api.Errno {
	t.Helper()
	id := b.open(t, 1)
	b.parts(t, id, parts...)
	before := b.all()
	e := b.x.Discharge(id, 1, false)
	b.wantOpen(t)
	if after := b.all(); e != api.OK && e != api.ErrDown && after+id != before {
		t.Fatalf("%d, but: %s\nbefore: %s", e, after, before)
	}
	return e
}

func (b *base) parts(t *testing.T, id string, parts ...part) {
	t.Helper()
	for _, p := range parts {
		if p.outcome.Kind == 0 {
			b.puts(t, id, 1, p.queue, p.e)
		} else {
			b.done(t, id, 1, p.queue, p.seq, 7, p.outcome)
		}
	}
}

// scene is how a store stands: what was done on its disk, and which messages holder 7 has.
type scene struct {
	ops  []api.Op
	held []backs
}

func (x scene) base(t *testing.T) *base {
	t.Helper()
	b := made(t, maxDisk, x.ops...)
	for _, h := range x.held {
		b.take(t, h.queue, 7, h.seq)
	}
	return b
}

// want wants that a transaction of these parts does just this batch, and then gives those back: as it is when all that is done by hand.
func (x scene) want(t *testing.T, what string, parts []part, ops []api.Op, l ...backs) {
	t.Helper()
	b, hand := x.base(t), x.base(t)
	wantErrno(t, what, b.discharged(t, parts...), api.OK)
	hand.apply(t, ops...)
	for _, h := range l {
		wantErrno(t, "Back", hand.s.Back(h.queue, h.seq, 7, h.failed), api.OK)
	}
	if b.all() != hand.all() {
		t.Fatalf("%s: %s\nwant %s", what, b.all(), hand.all())
	}
}

// six is a store in whose queues six messages lie, durable ones and others, that holder 7 has.
func six() scene {
	return scene{[]api.Op{
		declare(dying(lasting("q", 5), "d", 2)), declare(dying(passing("r", 5), "d", 3)), declare(dying(lasting("d", 4), "r", 1)),
		put("q", durable(1, 4)), put("q", plain(2, 9)), put("q", counted(durable(3, 4), 1)), put("r", durable(4, 0)), put("r", counted(durable(5, 4), 2)), put("d", durable(6, 4)),
	}, []backs{{queue: "q", seq: 1}, {queue: "q", seq: 2}, {queue: "q", seq: 3}, {queue: "r", seq: 4}, {queue: "r", seq: 5}, {queue: "d", seq: 6}}}
}

// P22.5: what becomes of each message, by its outcome.
func TestFates(t *testing.T) {
	x := six()
	x.want(t, "accepted", []part{ends("q", 1, accepted)}, []api.Op{remove("q", 1)})
	x.want(t, "accepted, not durable", []part{ends("q", 2, accepted)}, []api.Op{remove("q", 2)})
	x.want(t, "released", []part{ends("q", 1, released)}, nil, backs{"q", 1, false})
	x.want(t, "modified", []part{ends("q", 3, modified)}, nil, backs{"q", 3, false})
	x.want(t, "failed once", []part{ends("q", 1, failed)}, nil, backs{"q", 1, true})
	x.want(t, "rejected", []part{ends("q", 1, rejected)}, []api.Op{remove("q", 1), put("d", as(durable(1, 4), 7, 0))})
	x.want(t, "rejected, not durable", []part{ends("q", 2, rejected)}, []api.Op{remove("q", 2), put("d", as(plain(2, 9), 7, 0))})
	x.want(t, "failed twice", []part{ends("q", 3, failed)}, []api.Op{remove("q", 3), put("d", as(durable(3, 4), 7, 2))})
	x.want(t, "rejected, of a Count", []part{ends("q", 3, rejected)}, []api.Op{remove("q", 3), put("d", as(durable(3, 4), 7, 1))})
	x.want(t, "out of a queue that isn't durable", []part{ends("r", 5, failed)}, []api.Op{remove("r", 5), put("d", as(durable(5, 4), 7, 3))})
	x.want(t, "into a queue that isn't durable", []part{ends("d", 6, failed)}, []api.Op{remove("d", 6), put("r", as(durable(6, 4), 7, 1))})
	x.want(t, "put", []part{puts("q", durable(0, 9)), puts("r", plain(0, 0))}, []api.Op{put("q", turned(durable(0, 9), numbered(7))), put("r", turned(plain(0, 0), numbered(8)))})
	x.want(t, "nothing", nil, nil)
}

// numbered gives a number.
func numbered(seq int) func(e *api.Entry) { return func(e *api.Entry) { e.Seq = seq } }

// P22.5: the batch are first the removes, then the puts, then the dead ones, each part by part; what has not gone is given back behind it.
func TestOrder(t *testing.T) {
	six().want(t, "all in turns", []part{
		ends("r", 5, failed), puts("r", durable(0, 9)), ends("d", 6, rejected), ends("q", 1, released), puts("q", durable(0, 1)),
		ends("q", 3, accepted), ends("q", 2, failed), puts("d", durable(0, 2)), ends("r", 4, rejected),
	}, []api.Op{
		remove("r", 5), remove("d", 6), remove("q", 3), remove("r", 4),
		put("r", turned(durable(0, 9), numbered(7))), put("q", turned(durable(0, 1), numbered(8))), put("d", turned(durable(0, 2), numbered(9))),
		put("d", as(durable(5, 4), 10, 3)), put("r", as(durable(6, 4), 11, 0)), put("d", as(durable(4, 0), 12, 0)),
	}, backs{"q", 1, false}, backs{"q", 2, true})
	six().want(t, "the other way round", []part{
		ends("r", 4, rejected), puts("d", durable(0, 2)), ends("q", 2, failed), ends("q", 3, accepted), puts("q", durable(0, 1)),
		ends("q", 1, released), ends("d", 6, rejected), puts("r", durable(0, 9)), ends("r", 5, failed),
	}, []api.Op{
		remove("r", 4), remove("q", 3), remove("d", 6), remove("r", 5),
		put("d", turned(durable(0, 2), numbered(7))), put("q", turned(durable(0, 1), numbered(8))), put("r", turned(durable(0, 9), numbered(9))),
		put("d", as(durable(4, 0), 10, 0)), put("r", as(durable(6, 4), 11, 0)), put("d", as(durable(5, 4), 12, 3)),
	}, backs{"q", 2, true}, backs{"q", 1, false})
}

// P22.5: a batch has what a remove ahead of it has made room for.
func TestRoomOfRemoves(t *testing.T) {
	x := scene{[]api.Op{declare(lasting("q", 2)), put("q", durable(1, 4)), put("q", durable(2, 4))}, []backs{{queue: "q", seq: 1}, {queue: "q", seq: 2}}}
	e := durable(0, 4)
	x.want(t, "one for another", []part{puts("q", e), ends("q", 2, accepted)}, []api.Op{remove("q", 2), put("q", turned(e, numbered(3)))})
	x.want(t, "two for two", []part{puts("q", e), puts("q", e), ends("q", 2, accepted), ends("q", 1, rejected)}, []api.Op{remove("q", 2), remove("q", 1), put("q", turned(e, numbered(3))), put("q", turned(e, numbered(4)))})
	for _, parts := range [][]part{
		{puts("q", e)},
		{puts("q", e), puts("q", e), ends("q", 2, accepted)},
		{ends("q", 1, released), puts("q", e)},
		{ends("q", 1, failed), ends("q", 2, modified), puts("q", e)},
	} {
		wantErrno(t, "full", x.base(t).discharged(t, parts...), api.ErrQueueFull)
	}
}

// P22.5: by Tries, and the Count ahead of it: when a failed message is dead, and with which Count. Rejected it is dead always, with the Count that it has.
func TestTries(t *testing.T) {
	const word = maxWord
	for _, c := range []struct {
		tries, count int
		dies         bool
		then         int // its Count among the dead ones, or given back
	}{
		{0, 0, false, 1}, {0, 5, false, 6}, {0, word - 1, false, word}, {0, word, false, word},
		{1, 0, true, 1}, {1, 1, true, 2}, {1, word, true, word},
		{3, 0, false, 1}, {3, 1, false, 2}, {3, 2, true, 3}, {3, 3, true, 4}, {3, 9, true, 10},
		{word - 1, word - 3, false, word - 2}, {word - 1, word - 2, true, word - 1},
		{word, word - 2, false, word - 1}, {word, word - 1, true, word}, {word, word, true, word},
	} {
		what := fmt.Sprintf("%+v", c)
		e := counted(durable(1, 4), c.count)
		x := scene{[]api.Op{declare(dying(lasting("q", 2), "d", c.tries)), declare(lasting("d", 2)), put("q", e)}, []backs{{queue: "q", seq: 1}}}
		if c.dies {
			x.want(t, what, []part{ends("q", 1, failed)}, []api.Op{remove("q", 1), put("d", as(e, 2, c.then))})
		} else {
			x.want(t, what, []part{ends("q", 1, failed)}, nil, backs{"q", 1, true})
			b := x.base(t)
			wantErrno(t, what, b.discharged(t, ends("q", 1, failed)), api.OK)
			b.wantEntries(t, "q", counted(e, c.then))
		}
		x.want(t, what, []part{ends("q", 1, rejected)}, []api.Op{remove("q", 1), put("d", as(e, 2, c.count))})
		x.want(t, what, []part{ends("q", 1, modified)}, nil, backs{"q", 1, false})
		x.want(t, what, []part{ends("q", 1, released)}, nil, backs{"q", 1, false})
	}
}

// P22.5: of a dead message all stays but its Seq, its Count and its Holder.
func TestDeadStaysAsItWas(t *testing.T) {
	for _, e := range []api.Entry{
		{Seq: 1, Priority: 9, Expiry: 0, Durable: true, Count: 5, Data: []byte("\x00\xff")},
		{Seq: 1, Priority: 0, Expiry: maxTime, Count: 0},
		{Seq: 1, Priority: 3, Expiry: -1, Durable: true, Data: make([]byte, maxMessage)},
	} {
		for _, outcome := range []api.State{rejected, failed} {
			count := e.Count
			if outcome.Failed {
				count++
			}
			x := scene{[]api.Op{declare(dying(lasting("q", 2), "d", 1)), declare(lasting("d", 2)), put("q", e)}, []backs{{queue: "q", seq: 1}}}
			x.want(t, "dead", []part{ends("q", 1, outcome)}, []api.Op{remove("q", 1), put("d", as(e, 2, count))})
		}
	}
}

// P22.5: where a dead message goes, or whether it is just gone: by the queues that there are, and by their room behind the operations ahead.
func TestGraves(t *testing.T) {
	dead := func(queue string, seq int) part { return ends(queue, seq, rejected) }
	e := durable(0, 4)
	full := []api.Op{put("q", durable(1, 4)), put("q", durable(2, 4)), put("q", durable(3, 4)), put("d", durable(4, 4)), put("r", durable(5, 4))}
	all := []backs{{queue: "q", seq: 1}, {queue: "q", seq: 2}, {queue: "q", seq: 3}, {queue: "d", seq: 4}, {queue: "r", seq: 5}}
	queues := func(most int, name, of string) scene {
		return scene{append([]api.Op{declare(dying(lasting("q", 3), name, 0)), declare(dying(lasting("d", most), of, 0)), declare(dying(lasting("r", 1), "d", 0))}, full...), all}
	}
	for _, name := range []string{"", "none", "q.d"} {
		queues(3, name, "").want(t, "no such queue", []part{dead("q", 1), dead("q", 2), dead("r", 5)}, []api.Op{remove("q", 1), remove("q", 2), remove("r", 5), put("d", as(durable(5, 4), 6, 0))})
	}
	if _, e := queues(1, "", "").base(t).s.Apply([]api.Op{declare(dying(lasting("self", 3), "self", 1))}); e != api.ErrQueue {
		t.Errorf("a queue that is its own dead ones' queue: %d", e)
	}
	queues(1, "d", "").want(t, "full", []part{dead("q", 1)}, []api.Op{remove("q", 1)})
	queues(2, "d", "").want(t, "the last one", []part{dead("q", 1)}, []api.Op{remove("q", 1), put("d", as(durable(1, 4), 6, 0))})
	queues(2, "d", "").want(t, "full by another dead one", []part{dead("q", 2), dead("q", 1)}, []api.Op{remove("q", 2), remove("q", 1), put("d", as(durable(2, 4), 6, 0))})
	queues(2, "d", "").want(t, "full by one of another queue", []part{dead("r", 5), dead("q", 1)}, []api.Op{remove("r", 5), remove("q", 1), put("d", as(durable(5, 4), 6, 0))})
	queues(2, "d", "").want(t, "full by a put", []part{dead("q", 1), puts("d", e)}, []api.Op{remove("q", 1), put("d", turned(e, numbered(6)))})
	queues(3, "d", "").want(t, "a put and the last one", []part{dead("q", 1), puts("d", e), dead("q", 2)}, []api.Op{remove("q", 1), remove("q", 2), put("d", turned(e, numbered(6))), put("d", as(durable(1, 4), 7, 0))})
	queues(1, "d", "").want(t, "the room that a remove has made", []part{dead("q", 1), ends("d", 4, accepted)}, []api.Op{remove("q", 1), remove("d", 4), put("d", as(durable(1, 4), 6, 0))})
	queues(1, "d", "").want(t, "that room, but once", []part{dead("q", 1), ends("d", 4, accepted), dead("q", 2)}, []api.Op{remove("q", 1), remove("d", 4), remove("q", 2), put("d", as(durable(1, 4), 6, 0))})
	queues(1, "d", "").want(t, "that room, but a put has it", []part{dead("q", 1), ends("d", 4, accepted), puts("d", e)}, []api.Op{remove("q", 1), remove("d", 4), put("d", turned(e, numbered(6)))})
	queues(1, "d", "").want(t, "none that is given back makes room", []part{dead("q", 1), ends("d", 4, released)}, []api.Op{remove("q", 1)}, backs{"d", 4, false})
	queues(1, "d", "q").want(t, "each other's", []part{dead("q", 3), dead("d", 4)}, []api.Op{remove("q", 3), remove("d", 4), put("d", as(durable(3, 4), 6, 0)), put("q", as(durable(4, 4), 7, 0))})
	queues(1, "d", "q").want(t, "there and no way back", []part{dead("d", 4)}, []api.Op{remove("d", 4)})
	queues(1, "d", "r").want(t, "one into another one's place", []part{dead("d", 4), dead("r", 5), dead("q", 1)}, []api.Op{remove("d", 4), remove("r", 5), remove("q", 1), put("r", as(durable(4, 4), 6, 0)), put("d", as(durable(5, 4), 7, 0))})
	queues(1, "r", "").want(t, "numbers of those that are just gone are not used up", []part{dead("q", 1), ends("r", 5, accepted), dead("q", 2), puts("d", e), ends("d", 4, accepted), dead("q", 3)}, []api.Op{remove("q", 1), remove("r", 5), remove("q", 2), remove("d", 4), remove("q", 3), put("d", turned(e, numbered(6))), put("r", as(durable(1, 4), 7, 0))})
}

// P22.5: the Config that counts is the one that the queue has when the transaction is discharged, and so is what the queues hold.
func TestAsItIsThen(t *testing.T) {
	b := example(t)
	b.apply(t, put("q", durable(3, 4)))
	b.take(t, "q", 7, 3)
	id := b.open(t, 1)
	b.parts(t, id, ends("q", 1, failed), ends("q", 2, rejected), puts("d", durable(0, 4)))
	wantErrno(t, "Back", b.s.Back("q", 1, 7, true), api.OK)
	b.take(t, "q", 7, 1)
	b.apply(t, gone("d"), declare(lasting("d", 9)), put("d", durable(4, 9)))
	wantErrno(t, "Discharge", b.x.Discharge(id, 1, false), api.OK)
	b.wantEntries(t, "q", held(durable(3, 4), 7))
	b.wantEntries(t, "d", durable(4, 9), turned(durable(0, 4), numbered(5)), as(durable(1, 4), 6, 2), as(durable(2, 4), 7, 0))
}

// P22.5: with fail nothing is done, whatever the parts are, and however the store stands.
func TestFail(t *testing.T) {
	for name, turn := range map[string]func(b *base){
		"as it is":         func(b *base) {},
		"a message went":   func(b *base) { b.apply(t, remove("q", 1)) },
		"the queues went":  func(b *base) { b.apply(t, gone("q"), gone("r"), gone("d")) },
		"the disk is down": func(b *base) { b.d.Crash(0) },
	} {
		b := six().base(t)
		id, other := b.open(t, 1), b.open(t, 2)
		b.parts(t, id, ends("q", 1, accepted), ends("q", 3, rejected), ends("q", 2, failed), puts("q", durable(0, 4)), puts("q", durable(0, 4)), puts("q", durable(0, 4)))
		turn(b)
		before := told(b.s) + seen(b.d)
		wantErrno(t, name, b.x.Discharge(id, 1, true), api.OK)
		if after := told(b.s) + seen(b.d); after != before {
			t.Errorf("%s: %s\nbefore: %s", name, after, before)
		}
		b.wantOpen(t, other)
		b.stays(t, "again", func() api.Errno { return b.x.Discharge(id, 1, false) }, api.ErrNoTxn)
	}
}

// P22.5: a message that is not in its queue any more, or that its holder does not hold any more, is ErrEntry, ahead of what the store would answer; nothing is done, not with the other messages either.
func TestMessageWent(t *testing.T) {
	for name, turn := range map[string]func(b *base){
		"removed":                  func(b *base) { b.apply(t, remove("q", 1)) },
		"given back":               func(b *base) { b.s.Back("q", 1, 7, false) },
		"released":                 func(b *base) { b.s.Release(7) },
		"dead":                     func(b *base) { b.s.Back("q", 1, 7, true); b.take(t, "q", 7, 1); b.s.Back("q", 1, 7, true) },
		"buried":                   func(b *base) { b.s.Bury("q", 1, 7) },
		"another one's":            func(b *base) { b.s.Back("q", 1, 7, false); b.take(t, "q", 8, 1) },
		"expired":                  func(b *base) { b.s.Back("q", 1, 7, false); b.s.Expire(maxTime) },
		"its queue went":           func(b *base) { b.apply(t, gone("q")) },
		"another queue's":          func(b *base) { b.apply(t, gone("q"), declare(lasting("q", 9))) },
		"removed, then a full one": func(b *base) { b.apply(t, remove("q", 1), put("d", durable(7, 4)), put("d", durable(8, 4))) },
		"and the disk is down":     func(b *base) { b.apply(t, remove("q", 1)); b.d.Crash(0) },
	} {
		for _, outcome := range []api.State{accepted, rejected, released, modified, failed} {
			for _, parts := range [][]part{
				{ends("q", 1, outcome)},
				{ends("q", 2, accepted), ends("q", 3, failed), puts("d", durable(0, 4)), puts("r", durable(0, 4)), ends("q", 1, outcome), ends("d", 6, accepted)},
				{ends("q", 1, outcome), puts("d", durable(0, 4)), puts("d", durable(0, 4)), puts("d", durable(0, 4)), puts("d", durable(0, 4)), ends("r", 4, rejected)},
			} {
				x := six()
				x.ops[3].Entry.Expiry = 5
				b := x.base(t)
				id := b.open(t, 1)
				b.parts(t, id, parts...)
				turn(b)
				before := told(b.s) + seen(b.d)
				want := api.ErrEntry
				if name == "expired" && b.s.Entries("q")[0].Seq == 1 {
					t.Fatal("it is not expired")
				}
				wantErrno(t, name, b.x.Discharge(id, 1, false), want)
				if after := told(b.s) + seen(b.d); after != before {
					t.Errorf("%s: %s\nbefore: %s", name, after, before)
				}
				b.wantOpen(t)
				b.stays(t, "again", func() api.Errno { return b.x.Discharge(id, 1, false) }, api.ErrNoTxn)
			}
		}
	}
	// What its holder gave back, and took again, it holds.
	b := example(t)
	id := b.open(t, 1)
	b.parts(t, id, ends("q", 1, accepted))
	b.s.Release(7)
	b.take(t, "q", 7, 1)
	wantErrno(t, "taken again", b.x.Discharge(id, 1, false), api.OK)
	b.wantEntries(t, "q", durable(2, 4))
}

// late is a store of which the next number is as it is said. In q, and in r, which leads its dead ones to q, lie two messages that holder 7 has.
func late(t *testing.T, next int) *base {
	t.Helper()
	d := disk.New(maxDisk)
	j, _, e := journal.Open(d)
	wantErrno(t, "Open", e, api.OK)
	record := func(l ...api.Value) []byte { b, _ := codec.Encode(value.Listed(l...)); return b }
	number := func(kind, n int) api.Value { return sample.Num(kind, uint64(n)) }
	made := func(name, dead string) []byte {
		return record(number(api.Uint, 1), sample.Text(api.String, name), number(api.Uint, 9), sample.Text(api.String, dead), number(api.Uint, 0))
	}
	came := func(queue string, seq int) []byte {
		return record(number(api.Uint, 5), sample.Text(api.String, queue), number(api.Ulong, seq), number(api.Ubyte, 4), number(api.Long, -1), number(api.Uint, 0))
	}
	wantErrno(t, "Add", j.Add(made("q", ""), made("r", "q"), came("r", next-4), came("r", next-3), came("q", next-2), came("q", next-1)), api.OK)
	b := over(t, d)
	b.wantNext(t, next)
	b.take(t, "r", 7, next-4, next-3)
	b.take(t, "q", 7, next-2, next-1)
	return b
}

// P22.5: the number 2^62 is the last one: a put behind it is refused by the store, a dead message is just gone.
func TestLastNumbers(t *testing.T) {
	for _, c := range []struct {
		left, puts, dead int
		want             api.Errno
		then             int // how many more are in q
	}{
		{0, 0, 0, api.OK, 0}, {0, 1, 0, api.ErrLong, 0}, {0, 0, 1, api.OK, 0}, {0, 0, 2, api.OK, 0},
		{1, 1, 0, api.OK, 1}, {1, 2, 0, api.ErrLong, 0}, {1, 0, 1, api.OK, 1}, {1, 0, 2, api.OK, 1}, {1, 1, 1, api.OK, 1}, {1, 1, 2, api.OK, 1}, {1, 2, 2, api.ErrLong, 0},
		{2, 1, 1, api.OK, 2}, {2, 1, 2, api.OK, 2}, {2, 0, 2, api.OK, 2}, {2, 3, 0, api.ErrLong, 0},
		{3, 1, 2, api.OK, 3}, {4, 2, 2, api.OK, 4},
	} {
		what := fmt.Sprintf("%+v", c)
		next := lastSeq + 1 - c.left
		b := late(t, next)
		var parts []part
		for i := range c.dead {
			parts = append(parts, ends("r", next-4+i, rejected))
		}
		for range c.puts {
			parts = append(parts, puts("q", durable(0, 4)))
		}
		wantErrno(t, what, b.discharged(t, parts...), c.want)
		b.wantNext(t, next+c.then)
		if l := b.s.Entries("q"); len(l) != 2+c.then || c.then > 0 && l[1+c.then].Seq != next+c.then-1 {
			t.Errorf("%s: %s", what, toldEntries(l))
		}
		left := 2
		if c.want == api.OK {
			left -= c.dead
		}
		if l := b.s.Entries("r"); len(l) != left {
			t.Errorf("%s: %s", what, toldEntries(l))
		}
	}
}

// P22.5: each error of the store's Apply is the answer, nothing is done then, and the transaction is open no more.
func TestErrorsOfApply(t *testing.T) {
	e := durable(0, 4)
	long := turned(e, func(e *api.Entry) { e.Data = make([]byte, 3000) })
	for _, c := range []struct {
		name string
		turn func(b *base)
		last part
		want api.Errno
	}{
		{"a queue went", func(b *base) { b.apply(t, gone("n")) }, puts("n", e), api.ErrNoQueue},
		{"a queue is full", func(b *base) {}, puts("d", e), api.ErrQueueFull},
		{"a full queue, then one that went", func(b *base) { b.apply(t, gone("n"), put("d", durable(7, 4))) }, puts("n", e), api.ErrQueueFull},
		{"the disk is full", func(b *base) { b.d.Append("x", make([]byte, maxDisk-3000)) }, puts("r", e), api.ErrDiskFull},
		{"the disk is down", func(b *base) { b.d.Crash(0) }, puts("d", e), api.ErrDown},
		{"the power fails", func(b *base) { b.d.Arm(0, 0) }, puts("r", e), api.ErrDown},
		{"the power fails in the sync", func(b *base) { b.d.Arm(1, 0) }, puts("r", e), api.ErrDown},
	} {
		b := six().base(t)
		b.apply(t, declare(lasting("n", 3)))
		id := b.open(t, 1)
		b.parts(t, id, ends("q", 1, accepted), ends("q", 2, released), ends("q", 3, failed), ends("r", 5, modified), ends("r", 4, failed), puts("d", e), puts("d", long), puts("d", e), c.last)
		c.turn(b)
		before, files := told(b.s), toldFiles(b.d.Files())
		wantErrno(t, c.name, b.x.Discharge(id, 1, false), c.want)
		if after := told(b.s); after != before {
			t.Errorf("%s: %s\nbefore: %s", c.name, after, before)
		}
		if b.d.Up() && toldFiles(b.d.Files()) != files {
			t.Errorf("%s: the disk has changed", c.name)
		}
		b.wantOpen(t)
		wantErrno(t, "again", b.x.Discharge(id, 1, false), api.ErrNoTxn)
		wantErrno(t, "again", b.x.Put(id, 1, "r", e), api.ErrNoTxn)
		// What it was to be done with may be done with again.
		b.done(t, b.open(t, 2), 2, "q", 1, 7, accepted)
	}
}

// P22.5: a transaction without parts is an empty batch, which a store whose disk is down refuses.
func TestNoParts(t *testing.T) {
	b := six().base(t)
	b.open(t, 1)
	before := told(b.s) + seen(b.d)
	wantErrno(t, "Discharge", b.x.Discharge("t1", 1, false), api.OK)
	if after := told(b.s) + seen(b.d); after != before {
		t.Errorf("%s\nbefore: %s", after, before)
	}
	b.d.Arm(0, 0)
	b.open(t, 1)
	wantErrno(t, "no act", b.x.Discharge("t2", 1, false), api.OK)
	b.open(t, 1)
	b.parts(t, "t3", ends("q", 2, accepted), ends("q", 1, failed), puts("r", durable(0, 4)), puts("q", plain(0, 4)))
	wantErrno(t, "nothing that is written", b.x.Discharge("t3", 1, false), api.OK)
	if !b.d.Up() {
		t.Error("an act was made")
	}
	b.d.Crash(0)
	b.open(t, 1)
	wantErrno(t, "Discharge", b.x.Discharge("t4", 1, false), api.ErrDown)
	b.wantOpen(t)
}

// Behind an error the store goes on as if nothing had been: the same transaction, declared anew, is done once there is room.
func TestOnceMore(t *testing.T) {
	b := six().base(t)
	parts := []part{ends("q", 1, accepted), ends("q", 3, failed), puts("d", durable(0, 4)), puts("d", durable(0, 4)), puts("d", durable(0, 4)), puts("d", durable(0, 4))}
	for range 3 {
		wantErrno(t, "full", b.discharged(t, parts...), api.ErrQueueFull)
	}
	b.apply(t, remove("d", 6))
	wantErrno(t, "Discharge", b.discharged(t, parts...), api.OK)
	b.wantNext(t, 11)
	b.wantEntries(t, "q", held(plain(2, 9), 7))
	if n := len(b.s.Entries("d")); n != 4 {
		t.Errorf("%d messages", n)
	}
}

// A disk with room for just the batch takes it; with a byte less it is full, and nothing has changed.
func TestRoomOfDisk(t *testing.T) {
	parts := []part{ends("q", 1, accepted), ends("q", 3, rejected), puts("q", durable(0, 4)), ends("q", 2, failed)}
	b := six().base(t)
	wantErrno(t, "Discharge", b.discharged(t, parts...), api.OK)
	need := len(b.d.Files()[0].Data)
	for less := range 3 {
		b := made(t, need-less, six().ops...)
		for _, h := range six().held {
			b.take(t, h.queue, 7, h.seq)
		}
		want := api.OK
		if less > 0 {
			want = api.ErrDiskFull
		}
		wantErrno(t, fmt.Sprint(less, " bytes less"), b.discharged(t, parts...), want)
	}
}
