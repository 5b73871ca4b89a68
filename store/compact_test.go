package store_test

import (
	"fmt"
	"testing"

	"longshore/api"
	"longshore/disk"
)

// full is a store with all of it, behind many calls: of what is written some Counts have gone up, some messages are held, one was buried.
func full(t *testing.T, room int) (*disk.Disk, calls) {
	t.Helper()
	d := disk.New(room)
	s := opened(t, d)
	wantApply(t, s, declare(dying(lasting("z", 9), "b", 3)), declare(passing("m", 9)), declare(lasting("b", 2)), declare(lasting("a", 9)), declare(lasting("n", 9)))
	wantApply(t, s, bind("z.*", "z"), bind("a", "z"), bind("a", "a"), bind("#", "m"), bind("a", "m"), bind("b", "n"))
	wantApply(t, s, put("z", durable(1, 0)), put("a", until(durable(2, 9), 500)), put("z", counted(durable(3, 9), 2)), put("m", durable(4, 4)), put("z", plain(5, 4)), put("n", durable(6, 4)), put("z", durable(7, 4)))
	wantTaken(t, s, "z", 7, 1)
	wantOk(t, s.Back("z", 1, 7, true)) // its Count is 1
	wantTaken(t, s, "z", 7, 1)
	wantTaken(t, s, "z", 8, 3)
	wantOk(t, s.Back("z", 3, 8, true)) // it is dead: 8 in b, with a Count of 3
	wantTaken(t, s, "a", 9, 2)
	wantOk(t, s.Back("a", 2, 9, true))
	wantApply(t, s, gone("n"), remove("z", 7))
	return d, s
}

// fullRecords are what Compact makes of it.
func fullRecords() []string {
	return []string{
		madeRecord(lasting("a", 9)), madeRecord(lasting("b", 2)), madeRecord(dying(lasting("z", 9), "b", 3)),
		boundRecord("a", "a"), boundRecord("a", "z"), boundRecord("z.*", "z"),
		putRecord("z", counted(durable(1, 0), 1)), putRecord("a", counted(until(durable(2, 9), 500), 1)), putRecord("b", as(durable(3, 9), 8, 3)),
	}
}

// P21.8: where nothing is written the log has no batch; and the acts are those of the journal's Shorten.
func TestCompactOfNothing(t *testing.T) {
	for _, ops := range [][]api.Op{nil, {declare(passing("p", 5)), put("p", durable(1, 4)), bind("a", "p")}, {declare(lasting("q", 5)), bind("a", "q"), put("q", durable(1, 4)), gone("q")}} {
		s, d := made(t, ops...)
		before := told(s)
		d.Arm(3, 0)
		wantOk(t, s.Compact())
		if !d.Up() || told(s) != before {
			t.Errorf("%s, before: %s", told(s), before)
		}
		wantLog(t, d)
		wantErrno(t, "the fourth act", d.Sync("log"), api.ErrDown)
		d.Start()
		u := opened(t, d)
		wantQueues(t, u)
		wantNext(t, u, 1)
	}
}

// P21.8: one batch, byte for byte: queues, bindings, messages by rising Seqs, with their Counts as they are now, held ones too. What can be seen of the store stays.
func TestCompact(t *testing.T) {
	d, s := full(t, maxDisk)
	before := told(s)
	wantOk(t, s.Compact())
	wantLog(t, d, fullRecords())
	if told(s) != before {
		t.Errorf("%s, before: %s", told(s), before)
	}
	wantOk(t, s.Compact())
	wantLog(t, d, fullRecords())
	wantLasting(t, s, behindFall(t, d))
	wantNext(t, behindFall(t, d), 9)

	// It goes on: what is held can be given back, what comes then is written behind it.
	wantOk(t, s.Back("z", 1, 7, true), s.Release(1))
	wantApply(t, s, put("a", durable(9, 4)), remove("b", 8), bind("c", "a"))
	wantLog(t, d, fullRecords(), []string{putRecord("a", durable(9, 4)), removedRecord("b", 8), boundRecord("c", "a")})
	u := behindFall(t, d)
	wantEntries(t, u, "z", counted(durable(1, 0), 1)) // as it was when the log was made short
	wantOk(t, s.Compact())
	wantEntries(t, behindFall(t, d), "z", counted(durable(1, 0), 2))
}

// P21.8 and P21.9: what a restart tells changes by Compact in the next number, and the Counts, alone: Seqs of messages that are gone stand in the log no more.
func TestNextBehindCompact(t *testing.T) {
	s, d := made(t, declare(lasting("q", 9)), declare(passing("p", 9)), put("q", durable(1, 4)), put("q", durable(2, 4)), put("q", durable(3, 4)), put("p", plain(4, 4)))
	wantNext(t, behindFall(t, d), 4)
	wantApply(t, s, remove("q", 3))
	wantNext(t, behindFall(t, d), 4)
	wantOk(t, s.Compact())
	wantNext(t, s, 5)
	wantNext(t, behindFall(t, d), 3)
	wantApply(t, s, put("q", durable(5, 4)))
	wantNext(t, behindFall(t, d), 6)
	wantApply(t, s, remove("q", 1), remove("q", 2), remove("q", 5))
	wantOk(t, s.Compact())
	u := behindFall(t, d)
	wantNext(t, u, 1)
	wantQueues(t, u, lasting("q", 9))
	wantApply(t, u, put("q", durable(1, 4)))
	wantNext(t, s, 6)
}

// P21.8: ErrDiskFull, where the old log and the new one have no room beside each other; then all is as it was.
func TestCompactOnFullDisk(t *testing.T) {
	d, s := full(t, maxDisk)
	log := len(d.Files()[0].Data)
	short := len(batch(fullRecords()...))
	d, s = full(t, log+short-1)
	before := told(s) + seen(d)
	wantErrno(t, "Compact", s.Compact(), api.ErrDiskFull)
	if after := told(s) + seen(d); after != before {
		t.Errorf("%s, before: %s", after, before)
	}
	wantApply(t, s, remove("a", 2))
	d, s = full(t, log+short)
	wantOk(t, s.Compact())
	wantLog(t, d, fullRecords())
}

// P21.8: the power failing in each act: ErrDown, and a restart tells what it would have told ahead of the call.
func TestCompactFalls(t *testing.T) {
	for acts := range 3 {
		for _, keep := range keeps() {
			d, s := full(t, maxDisk)
			before, restart := told(s), told(behindFall(t, d))
			d.Arm(acts, keep)
			wantErrno(t, "Compact", s.Compact(), api.ErrDown)
			if told(s) != before {
				t.Fatalf("%s, before: %s", told(s), before)
			}
			u := opened(t, copied(t, d))
			if told(u) != restart {
				t.Fatalf("%s, before: %s", told(u), restart)
			}
			d.Start()
			wantErrno(t, "Compact", s.Compact(), api.ErrDown)
		}
	}
	d, s := full(t, maxDisk)
	d.Arm(3, 0)
	wantOk(t, s.Compact())
	wantLasting(t, s, behindFall(t, d))
}

// P21.8: a store with as much as there may be is made short, and told again.
func TestCompactOfMuch(t *testing.T) {
	s, d := made(t)
	seq := 1
	for i := range maxQueues {
		name := fmt.Sprint("n", (i*37+5)%maxQueues)
		ops := []api.Op{declare(dying(lasting(name, 60), fmt.Sprint("n", i), 2))}
		if name == fmt.Sprint("n", i) {
			ops = []api.Op{declare(lasting(name, 60))}
		}
		for k := range 4 {
			ops = append(ops, bind(fmt.Sprint("p", (i*7+k*13)%100), name))
		}
		for k := range 50 {
			ops = append(ops, put(name, durable(seq, k%10)))
			seq++
		}
		wantApply(t, s, ops...)
	}
	before := told(s)
	wantTold(t, "behind a restart", behindFall(t, d), s)
	size := len(d.Files()[0].Data)
	wantOk(t, s.Compact())
	if short := len(d.Files()[0].Data); short >= size {
		t.Errorf("%d bytes, before: %d", short, size)
	}
	wantTold(t, "behind Compact", behindFall(t, d), s)
	if told(s) != before {
		t.Error("the store has changed")
	}
}
