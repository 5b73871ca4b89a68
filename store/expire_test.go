package store_test

import (
	"fmt"
	"testing"

	"longshore/api"
	"longshore/disk"
)

// aging is a store over whose queues messages with times are spread: written ones, others, and held ones.
func aging(t *testing.T, room int) (*disk.Disk, calls) {
	t.Helper()
	d := disk.New(room)
	s := opened(t, d)
	wantApply(t, s, agingOps()...)
	wantTaken(t, s, "b", 7, 6)
	wantTaken(t, s, "a", 7, 9)
	return d, s
}

func agingOps() []api.Op {
	return []api.Op{
		declare(dying(lasting("b", 9), "dead", 1)), declare(passing("a", 9)), declare(lasting("c", 9)), declare(lasting("dead", 9)),
		put("b", until(durable(1, 4), 10)), put("b", until(durable(2, 9), 10)), put("b", until(plain(3, 5), 10)), put("b", durable(4, 4)), put("b", until(durable(5, 4), 11)), put("b", until(durable(6, 9), 0)),
		put("a", until(durable(7, 4), 0)), put("a", until(plain(8, 4), 9)), put("a", until(plain(9, 4), 9)),
		put("c", until(durable(10, 0), 9)), put("c", until(durable(11, 1), maxTime)), put("c", until(plain(12, 1), maxTime)),
	}
}

// agingRecords are the records of what is written of it.
func agingRecords() []string {
	return []string{
		madeRecord(dying(lasting("b", 9), "dead", 1)), madeRecord(lasting("c", 9)), madeRecord(lasting("dead", 9)),
		putRecord("b", until(durable(1, 4), 10)), putRecord("b", until(durable(2, 9), 10)), putRecord("b", durable(4, 4)), putRecord("b", until(durable(5, 4), 11)), putRecord("b", until(durable(6, 9), 0)),
		putRecord("c", until(durable(10, 0), 9)), putRecord("c", until(durable(11, 1), maxTime)),
	}
}

// left are the Seqs that a store's queues have.
func left(s calls) string {
	text := ""
	for _, c := range s.Queues() {
		text += c.Name + ":"
		for _, e := range s.Entries(c.Name) {
			text += fmt.Sprint(" ", e.Seq)
		}
		text += ". "
	}
	return text
}

// P21.6: free messages go when their time is not above now, queue by queue by rising names, each in the queue's order; the written ones are one batch.
func TestExpire(t *testing.T) {
	const all = "a: 7 8 9. b: 2 6 3 1 4 5. c: 11 12 10. dead:. "
	for _, c := range []struct {
		now, gone int
		left      string
		batch     []string
	}{
		{-1 << 63, 0, all, nil},
		{-1, 0, all, nil},
		{0, 1, "a: 8 9. b: 2 6 3 1 4 5. c: 11 12 10. dead:. ", nil},
		{8, 1, "a: 8 9. b: 2 6 3 1 4 5. c: 11 12 10. dead:. ", nil},
		{9, 3, "a: 9. b: 2 6 3 1 4 5. c: 11 12. dead:. ", []string{removedRecord("c", 10)}},
		{10, 6, "a: 9. b: 6 4 5. c: 11 12. dead:. ", []string{removedRecord("b", 2), removedRecord("b", 1), removedRecord("c", 10)}},
		{11, 7, "a: 9. b: 6 4. c: 11 12. dead:. ", []string{removedRecord("b", 2), removedRecord("b", 1), removedRecord("b", 5), removedRecord("c", 10)}},
		{maxTime - 1, 7, "a: 9. b: 6 4. c: 11 12. dead:. ", []string{removedRecord("b", 2), removedRecord("b", 1), removedRecord("b", 5), removedRecord("c", 10)}},
		{maxTime, 9, "a: 9. b: 6 4. c:. dead:. ", []string{removedRecord("b", 2), removedRecord("b", 1), removedRecord("b", 5), removedRecord("c", 11), removedRecord("c", 10)}},
		{1<<63 - 1, 9, "a: 9. b: 6 4. c:. dead:. ", []string{removedRecord("b", 2), removedRecord("b", 1), removedRecord("b", 5), removedRecord("c", 11), removedRecord("c", 10)}},
	} {
		d, s := aging(t, maxDisk)
		if n, e := s.Expire(c.now); n != c.gone || e != api.OK {
			t.Fatalf("Expire(%d): %d, %d, want %d", c.now, n, e, c.gone)
		}
		if got := left(s); got != c.left {
			t.Errorf("Expire(%d): %s, want %s", c.now, got, c.left)
		}
		if c.batch == nil {
			wantLog(t, d, agingRecords())
		} else {
			wantLog(t, d, agingRecords(), c.batch)
		}
		wantNext(t, s, 13)
		wantLasting(t, s, behindFall(t, d))
		before := told(s) + seen(d)
		if n, e := s.Expire(c.now); n != 0 || e != api.OK || told(s)+seen(d) != before {
			t.Errorf("Expire(%d) again: %d, %d", c.now, n, e)
		}
	}
}

// P21.6: what is held stays, and goes at the next Expire when it was given back; the time needs not rise.
func TestExpireOfHeld(t *testing.T) {
	d, s := aging(t, maxDisk)
	if n, e := s.Expire(100); n != 7 || e != api.OK {
		t.Fatalf("Expire: %d, %d", n, e)
	}
	wantOk(t, s.Back("b", 6, 7, false))
	if n, e := s.Expire(-1); n != 0 || e != api.OK {
		t.Fatalf("Expire: %d, %d", n, e)
	}
	if n, e := s.Expire(0); n != 1 || e != api.OK {
		t.Fatalf("Expire: %d, %d", n, e)
	}
	wantOk(t, s.Release(7))
	if n, e := s.Expire(8); n != 0 || e != api.OK {
		t.Fatalf("Expire: %d, %d", n, e)
	}
	if n, e := s.Expire(9); n != 1 || e != api.OK {
		t.Fatalf("Expire: %d, %d", n, e)
	}
	wantEntries(t, s, "a")
	wantEntries(t, s, "b", durable(4, 4))
	wantEntries(t, s, "dead")
	wantErrno(t, "Back", s.Back("a", 9, 7, false), api.ErrEntry)
	wantApply(t, s, put("a", until(plain(13, 4), 5)))
	if n, e := s.Expire(5); n != 1 || e != api.OK {
		t.Fatalf("Expire: %d, %d", n, e)
	}
	wantLasting(t, s, behindFall(t, d))
}

// P21.6: the journal's error is the answer, and nothing has changed; where nothing is to be written there is none.
func TestExpireFails(t *testing.T) {
	size := len(logOf(agingRecords()))
	records := []string{removedRecord("b", 2), removedRecord("b", 1), removedRecord("c", 10)}
	d, s := aging(t, size)
	before := told(s) + seen(d)
	if n, e := s.Expire(10); n != 0 || e != api.ErrDiskFull || told(s)+seen(d) != before {
		t.Errorf("Expire on a full disk: %d, %d, %s", n, e, told(s))
	}
	if n, e := s.Expire(8); n != 1 || e != api.OK {
		t.Errorf("Expire on a full disk: %d, %d", n, e)
	}
	for acts := range 3 {
		for _, keep := range keeps() {
			d, s := aging(t, maxDisk)
			before := told(s)
			d.Arm(acts, keep)
			if acts == 2 {
				if n, e := s.Expire(10); n != 6 || e != api.OK {
					t.Errorf("Expire: %d, %d", n, e)
				}
				continue
			}
			if n, e := s.Expire(10); n != 0 || e != api.ErrDown || told(s) != before {
				t.Fatalf("Expire, the power fails: %d, %d, %s", n, e, told(s))
			}
			_, want := aging(t, maxDisk)
			if keep >= len(batch(records...)) {
				want.Expire(10)
			}
			wantLasting(t, want, opened(t, copied(t, d)))
			d.Start()
			if n, e := s.Expire(10); n != 0 || e != api.ErrDown || told(s) != before {
				t.Fatalf("Expire, the journal is down: %d, %d", n, e)
			}
			if n, e := s.Expire(0); n != 1 || e != api.OK {
				t.Fatalf("Expire of what is not written: %d, %d", n, e)
			}
		}
	}
}

// P21.6: of an empty store, and of queues without messages, nothing goes, and nothing is written.
func TestExpireOfNothing(t *testing.T) {
	s, d := made(t)
	for _, now := range []int{-1, 0, maxTime} {
		if n, e := s.Expire(now); n != 0 || e != api.OK {
			t.Errorf("Expire: %d, %d", n, e)
		}
	}
	wantNoFiles(t, d)
	wantApply(t, s, declare(lasting("q", 5)))
	d.Arm(0, 0)
	if n, e := s.Expire(maxTime); n != 0 || e != api.OK || !d.Up() {
		t.Errorf("Expire: %d, %d", n, e)
	}
}
