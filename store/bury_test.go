package store_test

import (
	"fmt"
	"testing"

	"longshore/api"
	"longshore/disk"
)

// P21.5: no queue, no message, another holder, no holder at all: nothing has changed.
func TestErrorsOfBack(t *testing.T) {
	d, s := busy(t)
	before := told(s) + seen(d)
	for _, c := range []struct {
		queue       string
		seq, holder int
		want        api.Errno
	}{
		{"x", 2, 7, api.ErrNoQueue}, {"", 2, 7, api.ErrNoQueue}, {"Q", 2, 0, api.ErrNoQueue}, {"x", 0, 0, api.ErrNoQueue},
		{"q", 9, 7, api.ErrEntry}, {"q", 0, 7, api.ErrEntry}, {"q", -2, 7, api.ErrEntry}, {"q", 6, 7, api.ErrEntry}, {"r", 2, 7, api.ErrEntry}, {"q", 5, 7, api.ErrEntry}, {"p", 2, 7, api.ErrEntry},
		{"q", 2, 8, api.ErrEntry}, {"q", 2, 6, api.ErrEntry}, {"q", 2, 7 + 1<<32, api.ErrEntry}, {"q", 1, 7, api.ErrEntry}, {"q", 3, 7, api.ErrEntry},
		{"q", 2, 0, api.ErrEntry}, {"q", 1, 0, api.ErrEntry}, {"q", 1, -1, api.ErrEntry}, {"q", 2, -7, api.ErrEntry}, {"q", 1, -1 << 63, api.ErrEntry},
	} {
		what := fmt.Sprint(c.queue, " ", c.seq, " ", c.holder)
		wantErrno(t, "Back "+what, s.Back(c.queue, c.seq, c.holder, false), c.want)
		wantErrno(t, "Back, failed "+what, s.Back(c.queue, c.seq, c.holder, true), c.want)
		wantErrno(t, "Bury "+what, s.Bury(c.queue, c.seq, c.holder), c.want)
	}
	if after := told(s) + seen(d); after != before {
		t.Errorf("%s, before: %s", after, before)
	}
}

// P21.5: a message that is not dead is free again, with one more Count if it failed; nothing of it is written. Then it is nobody's.
func TestBack(t *testing.T) {
	tries := dying(lasting("q", 9), "d", 3)
	s, d := made(t, declare(tries), declare(lasting("d", 9)), declare(lasting("n", 9)), put("q", durable(1, 4)), put("q", plain(2, 9)), put("n", counted(durable(3, 4), maxWord-1)), put("n", counted(plain(4, 4), 8)))
	files := seen(d)
	for _, c := range []struct {
		queue  string
		seq    int
		failed bool
		want   int // its Count then
	}{
		{"q", 1, false, 0}, {"q", 1, true, 1}, {"q", 1, false, 1}, {"q", 1, true, 2}, {"q", 2, true, 1}, {"q", 1, false, 2},
		{"n", 3, true, maxWord}, {"n", 3, true, maxWord}, {"n", 4, true, 9}, {"n", 4, true, 10}, {"n", 4, false, 10}, {"q", 2, false, 1},
	} {
		wantTaken(t, s, c.queue, 7, c.seq)
		wantOk(t, s.Back(c.queue, c.seq, 7, c.failed))
		wantErrno(t, "Back again", s.Back(c.queue, c.seq, 7, c.failed), api.ErrEntry)
		e, is := s.Peek(c.queue, c.seq-1, nil)
		if !is || e.Seq != c.seq || e.Count != c.want || e.Holder != 0 {
			t.Fatalf("%v: %s, %t", c, toldEntry(e), is)
		}
	}
	wantEntries(t, s, "q", counted(plain(2, 9), 1), counted(durable(1, 4), 2))
	wantEntries(t, s, "n", counted(durable(3, 4), maxWord), counted(plain(4, 4), 10))
	wantEntries(t, s, "d")
	wantNext(t, s, 5)
	if seen(d) != files {
		t.Errorf("%s, before: %s", seen(d), files)
	}
	// The Counts are those that were written.
	u := behindFall(t, d)
	wantEntries(t, u, "q", durable(1, 4))
	wantEntries(t, u, "n", counted(durable(3, 4), maxWord-1))
}

// P21.5: without Tries, or without failing, nothing dies; with a Count that came with it a message may be dead at its first failure.
func TestTries(t *testing.T) {
	for _, c := range []struct {
		tries, count int
		failed, dead bool
	}{
		{0, 0, true, false}, {0, maxWord, true, false}, {1, 0, false, false}, {1, 5, false, false}, {1, 0, true, true}, {2, 0, true, false}, {2, 1, true, true}, {2, 9, true, true}, {2, 9, false, false},
		{maxWord, maxWord - 2, true, false}, {maxWord, maxWord - 1, true, true}, {maxWord, maxWord, true, true},
	} {
		s, _ := made(t, declare(dying(passing("q", 1), "d", c.tries)), declare(passing("d", 1)), put("q", counted(plain(1, 4), c.count)))
		wantTaken(t, s, "q", 7, 1)
		wantOk(t, s.Back("q", 1, 7, c.failed))
		count := c.count
		if c.failed {
			count = min(count+1, maxWord)
		}
		if c.dead {
			wantEntries(t, s, "q")
			wantEntries(t, s, "d", as(plain(1, 4), 2, count))
			wantNext(t, s, 3)
		} else {
			wantEntries(t, s, "q", counted(plain(1, 4), count))
			wantEntries(t, s, "d")
			wantNext(t, s, 2)
		}
	}
}

// death is a message that is to be buried, where it stands, and where it goes.
type death struct {
	lasts   bool // its queue is durable
	durable bool // it is
	dead    int  // what is there of the name in Dead
	back    bool // by Back, at its last try; else by Bury
}

// What may be there of the name in Dead.
const (
	noName      = iota // the Config has none
	noQueue            // no queue of that name
	lastingRoom        // a durable one with room
	passingRoom        // another one with room
	lastingFull        // a full one; a held message fills it
	passingFull
)

func (x death) String() string {
	return fmt.Sprintf("queue durable %t, message durable %t, dead ones %d, Back %t", x.lasts, x.durable, x.dead, x.back)
}

// anyDeath goes through all.
func anyDeath(yield func(death) bool) {
	for n := range 6 {
		for i := range 8 {
			if !yield(death{lasts: i&1 > 0, durable: i&2 > 0, back: i&4 > 0, dead: n}) {
				return
			}
		}
	}
}

// msg is the message, with a Count of 3 and a time; behind a failed delivery by Back its Count is one more.
func (x death) msg() api.Entry {
	e := counted(until(durable(2, 7), 1000), 3)
	e.Durable = x.durable
	return e
}

func (x death) count() int {
	if x.back {
		return 4
	}
	return 3
}

// configs are the queue and that of dead ones (nil: there is none).
func (x death) configs() (api.QueueConfig, *api.QueueConfig) {
	q := dying(api.QueueConfig{Name: "q", Most: 2, Durable: x.lasts}, "d", 4)
	switch x.dead {
	case noName:
		q.Dead = ""
		return q, nil
	case noQueue:
		return q, nil
	}
	d := api.QueueConfig{Name: "d", Most: 2, Durable: x.dead == lastingRoom || x.dead == lastingFull}
	if x.dead == lastingFull || x.dead == passingFull {
		d.Most = 1
	}
	return q, &d
}

// room tells whether the message goes to the dead ones.
func (x death) room() bool { return x.dead == lastingRoom || x.dead == passingRoom }

// record is what is written when it dies; none: "".
func (x death) record() string {
	was, is := x.lasts && x.durable, x.durable && x.dead == lastingRoom
	switch {
	case was && is:
		return movedRecord("q", 2, "d", 3, x.count())
	case was:
		return removedRecord("q", 2)
	case is:
		return putRecord("d", as(x.msg(), 3, x.count()))
	}
	return ""
}

// set is a store ahead of the death, which has the number 3 next, on a disk with that room.
func (x death) set(t *testing.T, room int) (*disk.Disk, calls) {
	t.Helper()
	k := disk.New(room)
	s := opened(t, k)
	q, d := x.configs()
	ops := []api.Op{declare(q)}
	first := plain(1, 4)
	if d != nil {
		ops = append(ops, declare(*d), put("d", first))
	} else {
		ops = append(ops, declare(passing("other", 1)), put("other", first))
	}
	wantApply(t, s, append(ops, put("q", x.msg()))...)
	if d != nil {
		wantTaken(t, s, "d", 9, 1)
	}
	wantTaken(t, s, "q", 7, 2)
	return k, s
}

func (x death) die(s calls) api.Errno {
	if x.back {
		return s.Back("q", 2, 7, true)
	}
	return s.Bury("q", 2, 7)
}

// P21.5: a message is buried by Back or by Bury: where it goes, with what Count and number, and what is written of it, byte for byte.
func TestBuried(t *testing.T) {
	met := map[string]int{}
	for x := range anyDeath {
		d, s := x.set(t, maxDisk)
		files := seen(d)
		wantOk(t, x.die(s))
		wantEntries(t, s, "q")
		_, dead := x.configs()
		want := []api.Entry{}
		if x.room() {
			want = append(want, as(x.msg(), 3, x.count()))
		}
		if dead != nil {
			want = append(want, held(plain(1, 4), 9))
		}
		wantEntries(t, s, "d", want...)
		if x.room() {
			wantNext(t, s, 4)
		} else {
			wantNext(t, s, 3)
		}
		if got, want := seen(d), lastBatch(files, d, x.record()); got != want {
			t.Errorf("%v: %s, want %s", x, got, want)
		}
		if x.record() != "" {
			met[x.record()]++
		}
		wantLasting(t, s, behindFall(t, d))
		wantErrno(t, "again", x.die(s), api.ErrEntry)
		if x.room() {
			wantTaken(t, s, "d", 7, 3)
			wantApply(t, s, remove("d", 3))
		}
		wantOk(t, s.Release(7), s.Release(9))
		if len(s.Entries("q")) > 0 {
			t.Errorf("%v: it came back", x)
		}
	}
	if len(met) != 5 {
		t.Errorf("%d different records", len(met))
	}
}

// lastBatch is what a disk must look like that had these files, behind one more batch of a record (none: "").
func lastBatch(before string, d *disk.Disk, record string) string {
	if record == "" {
		return before
	}
	f := d.Files()
	if len(f) != 1 || f[0].Name != "log" {
		return "no log"
	}
	more := batch(record)
	n := len(f[0].Data) - len(more)
	if n < 0 {
		return "a shorter log"
	}
	whole := string(f[0].Data[:n])
	ahead := []api.File{safeFile("log", whole)}
	if n == 0 {
		ahead = nil // there was no log at all
	}
	if fmt.Sprint(true, " ", toldFiles(ahead)) != before {
		return "another log ahead of it"
	}
	return fmt.Sprint(true, " ", toldFiles([]api.File{safeFile("log", whole+more)}))
}

// P21.5: the journal's error is the answer, where something is to be written; then nothing has changed. Where nothing is, no power and no room is needed.
func TestBuryFails(t *testing.T) {
	for x := range anyDeath {
		d, s := x.set(t, maxDisk)
		size := 0
		for _, f := range d.Files() {
			size += len(f.Data)
		}
		before := told(s)

		full, u := x.set(t, size)
		files := seen(full)
		e := x.die(u)
		if x.record() == "" {
			wantOk(t, e)
		} else if e != api.ErrDiskFull || told(u) != before || seen(full) != files {
			t.Fatalf("%v on a full disk: %d, %s, before: %s", x, e, told(u), before)
		}

		for acts := range 3 {
			for _, keep := range keeps() {
				d, s = x.set(t, maxDisk)
				d.Arm(acts, keep)
				e := x.die(s)
				if x.record() == "" || acts == 2 {
					wantOk(t, e)
					continue
				}
				if e != api.ErrDown || told(s) != before {
					t.Fatalf("%v, the power fails: %d, %s, before: %s", x, e, told(s), before)
				}
				_, want := x.set(t, maxDisk)
				if keep >= len(batch(x.record())) {
					wantOk(t, x.die(want))
				}
				wantLasting(t, want, opened(t, copied(t, d)))
				d.Start()
				wantErrno(t, "once more", x.die(s), api.ErrDown)
				wantOk(t, s.Back("q", 2, 7, false))
			}
		}
	}
}

// P21.5: when the numbers are used up a dead message is gone, wherever it was to go.
func TestBuryWithoutNumbers(t *testing.T) {
	for _, c := range []struct {
		last int
		want []api.Entry
	}{{lastSeq - 1, []api.Entry{as(durable(5, 4), lastSeq, 1)}}, {lastSeq, nil}} {
		for _, back := range []bool{true, false} {
			d := withLog(t, []string{madeRecord(dying(lasting("q", 9), "d", 1)), madeRecord(lasting("d", 9)), putRecord("q", counted(durable(5, 4), 0)), putRecord("q", durable(c.last, 9))})
			ahead := len(d.Files()[0].Data)
			s := opened(t, d)
			wantTaken(t, s, "q", 7, 5)
			want := c.want
			if back {
				wantOk(t, s.Back("q", 5, 7, true))
			} else {
				wantOk(t, s.Bury("q", 5, 7))
				want = nil
				for _, e := range c.want {
					want = append(want, counted(e, 0))
				}
			}
			wantEntries(t, s, "d", want...)
			wantEntries(t, s, "q", durable(c.last, 9))
			wantNext(t, s, lastSeq+1)
			record := removedRecord("q", 5)
			if len(want) > 0 {
				record = movedRecord("q", 5, "d", lastSeq, want[0].Count)
			}
			if got := string(d.Files()[0].Data[ahead:]); got != batch(record) {
				t.Errorf("%q, want %q", got, batch(record))
			}
			wantTold(t, "behind a restart", behindFall(t, d), s)
		}
	}
}

// P21.5: the queue of dead ones may have dead ones of its own; two queues may be each other's; a message may come back to where it was, under another number.
func TestBuriedThereAndBack(t *testing.T) {
	s, d := made(t, declare(dying(lasting("a", 2), "b", 1)), declare(dying(lasting("b", 1), "a", 3)), put("a", durable(1, 4)), put("a", durable(2, 9)))
	wantTaken(t, s, "a", 7, 1)
	wantOk(t, s.Back("a", 1, 7, true))
	wantEntries(t, s, "b", as(durable(1, 4), 3, 1))
	wantTaken(t, s, "b", 7, 3)
	wantOk(t, s.Back("b", 3, 7, true))
	wantEntries(t, s, "b", as(durable(1, 4), 3, 2))
	wantTaken(t, s, "b", 7, 3)
	wantOk(t, s.Back("b", 3, 7, true))
	wantEntries(t, s, "b")
	wantEntries(t, s, "a", durable(2, 9), as(durable(1, 4), 4, 3))
	wantTaken(t, s, "a", 7, 2)
	wantOk(t, s.Bury("a", 2, 7))
	wantTaken(t, s, "b", 7, 5)
	wantApply(t, s, put("a", durable(6, 0)))
	wantOk(t, s.Bury("b", 5, 7)) // a is full: it is gone
	wantEntries(t, s, "a", as(durable(1, 4), 4, 3), durable(6, 0))
	wantEntries(t, s, "b")
	wantNext(t, s, 7)
	wantTold(t, "behind a restart", behindFall(t, d), s)
}

// P21.5: a queue that is made of the name in Dead, or goes, counts as soon as it is there, or is not.
func TestDeadOnesComeAndGo(t *testing.T) {
	s, _ := made(t, declare(dying(passing("q", 9), "d", 1)), put("q", plain(1, 4)), put("q", plain(2, 4)), put("q", plain(3, 4)))
	wantTaken(t, s, "q", 7, 1)
	wantOk(t, s.Bury("q", 1, 7))
	wantApply(t, s, declare(passing("d", 1)))
	wantTaken(t, s, "q", 7, 2)
	wantOk(t, s.Bury("q", 2, 7))
	wantEntries(t, s, "d", as(plain(2, 4), 4, 0))
	wantApply(t, s, gone("d"))
	wantTaken(t, s, "q", 7, 3)
	wantOk(t, s.Back("q", 3, 7, true))
	wantEntries(t, s, "q")
	wantNext(t, s, 5)
}

// P21.5: what is written of a message that was held among many is its own bytes.
func TestBuriedAmongMany(t *testing.T) {
	ops := []api.Op{declare(dying(passing("q", 200), "d", 1)), declare(lasting("d", 200))}
	var want []api.Entry
	for i := range 150 {
		e := durable(i+1, i*7%10)
		e.Data = fmt.Append(nil, "the bytes of ", i)
		ops = append(ops, put("q", e))
	}
	s, d := made(t, ops...)
	for i := 149; i >= 0; i-- {
		e, _ := s.Take("q", 1+i%3, nil)
		wantOk(t, s.Bury("q", e.Seq, 1+i%3))
		want = append(want, as(e, 300-i, 0))
	}
	if len(want) != 150 || len(s.Entries("d")) != 150 {
		t.Fatalf("%d buried", len(s.Entries("d")))
	}
	wantEntries(t, s, "q")
	u := behindFall(t, d)
	wantEntries(t, u, "d", want...)
	wantEntries(t, s, "d", want...)
}
