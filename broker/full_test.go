package broker_test

import (
	"fmt"
	"slices"
	"strings"
	"testing"

	"longshore/api"
	"longshore/disk"
)

// The disks of these tests have little room.
const room = 4000

// sized is a durable message of some bytes more than n.
func sized(n int) []byte { return text(strings.Repeat("x", n), 4, durable) }

// lay puts a durable message into a queue behind the broker's back, if there is room.
func (r *rig) lay(queue string, data []byte, expiry int) api.Errno {
	e := entry(r.s.Next(), 4, data)
	e.Durable, e.Expiry = true, expiry
	_, err := r.s.Apply([]api.Op{put(queue, e)})
	return err
}

// litter leaves a log of which little is needed: messages that came and went.
func (r *rig) litter(times int) {
	r.t.Helper()
	for range times {
		wantErrno(r.t, "Apply", r.lay("q", sized(950), -1), api.OK)
		r.apply(remove("q", r.s.Next()-1))
	}
}

// logged is how many bytes all files have.
func (r *rig) logged() int {
	n := 0
	for _, f := range r.d.Files() {
		n += len(f.Data)
	}
	return n
}

// small is a rig on a disk of little room: q, of which the dead ones go to d, is durable, and so is d; p is not, though its dead ones go there too.
func small(t *testing.T) *rig {
	t.Helper()
	return over(t, disk.New(room), declare(dying(lasting("q", 9), "d", 1)), declare(lasting("d", 9)), declare(dying(passing("p", 9), "d", 1)))
}

// littered is a small rig that has room for a great message if its log is made short, else not. In p lies one of that size, which is not written.
func littered(t *testing.T, size int) (*rig, *peer) {
	t.Helper()
	r := small(t)
	r.litter(3)
	wantErrno(t, "Apply", r.lay("p", sized(size), -1), api.OK)
	return r, r.holding("p")
}

// crowded is a small rig that has no room for a great message, nor to make its log short. In p lies a great one, which is not written.
func crowded(t *testing.T) (*rig, *peer) {
	t.Helper()
	r := small(t)
	r.litter(1)
	wantErrno(t, "Apply", r.lay("q", sized(2000), -1), api.OK)
	wantErrno(t, "Apply", r.lay("p", sized(900), -1), api.OK)
	return r, r.holding("p")
}

// brimful is a small rig that has room for nothing, nor to make its log short. In q lies a short message of the time 100, and one that takes all the rest.
func brimful(t *testing.T) (*rig, *peer) {
	t.Helper()
	r := small(t)
	wantErrno(t, "Apply", r.lay("q", sized(1), 100), api.OK)
	for n := room; r.logged() < room; n-- {
		r.lay("q", sized(n), -1)
	}
	return r, r.holding("q")
}

// tailed is a small rig whose log has a tail, which a fall has left: it has room for nothing, but if its log is made short. In q lies a short message of the time 100.
func tailed(t *testing.T) (*rig, *peer) {
	t.Helper()
	r := small(t)
	r.litter(2)
	wantErrno(t, "Apply", r.lay("q", sized(1), 100), api.OK)
	r.d.Arm(0, 5)
	wantErrno(t, "Apply", r.lay("q", sized(1), -1), api.ErrDown)
	r.d.Start()
	r = over(t, r.d, declare(dying(passing("p", 9), "d", 1)))
	return r, r.holding("q")
}

// holding is a peer that sends to q at 0.0, and at 0.1 holds the first message of a queue.
func (r *rig) holding(queue string) *peer {
	r.t.Helper()
	p := r.join()
	p.sender("s", "queue/q")
	p.receiver("r", "queue/"+queue)
	p.credits(1, 1)
	p.move()
	if len(p.seen) != 1 {
		r.t.Fatalf("%q", p.seen)
	}
	p.seen = nil
	return p
}

// numbers wants just the messages of these numbers in a queue, those that are held or have failed with a word that says so.
func (r *rig) numbers(queue string, want ...string) {
	r.t.Helper()
	var got []string
	for _, e := range r.s.Entries(queue) {
		s := fmt.Sprint(e.Seq)
		if e.Count > 0 {
			s += " failed"
		}
		if e.Holder != 0 {
			s += " held"
		}
		got = append(got, s)
	}
	if !slices.Equal(got, want) {
		r.t.Fatalf("in %s: %q, want %q", queue, got, want)
	}
}

// The rigs above are as they say, were there no broker.
func TestNoRoom(t *testing.T) {
	for i, c := range []struct {
		make     func(t *testing.T) (*rig, *peer)
		do       func(r *rig) api.Errno
		compacts api.Errno
		then     api.Errno
	}{
		{func(t *testing.T) (*rig, *peer) { return littered(t, 900) }, func(r *rig) api.Errno { return r.lay("q", sized(900), -1) }, api.OK, api.OK},
		{func(t *testing.T) (*rig, *peer) { return littered(t, 900) }, func(r *rig) api.Errno { return r.s.Bury("p", 4, 1) }, api.OK, api.OK},
		{func(t *testing.T) (*rig, *peer) { return littered(t, 900) }, func(r *rig) api.Errno { return r.s.Back("p", 4, 1, true) }, api.OK, api.OK},
		{func(t *testing.T) (*rig, *peer) { return littered(t, 3950) }, func(r *rig) api.Errno { return r.lay("q", sized(3950), -1) }, api.OK, api.ErrDiskFull},
		{func(t *testing.T) (*rig, *peer) { return littered(t, 3950) }, func(r *rig) api.Errno { return r.s.Bury("p", 4, 1) }, api.OK, api.ErrDiskFull},
		{crowded, func(r *rig) api.Errno { return r.lay("q", sized(900), -1) }, api.ErrDiskFull, api.ErrDiskFull},
		{crowded, func(r *rig) api.Errno { return r.s.Bury("p", 3, 1) }, api.ErrDiskFull, api.ErrDiskFull},
		{brimful, func(r *rig) api.Errno { return r.s.Bury("q", 1, 1) }, api.ErrDiskFull, api.ErrDiskFull},
		{tailed, func(r *rig) api.Errno { return r.s.Bury("q", 3, 1) }, api.OK, api.OK},
		{tailed, func(r *rig) api.Errno { return r.lay("q", sized(1), -1) }, api.OK, api.OK},
	} {
		r, _ := c.make(t)
		if e := c.do(r); e != api.ErrDiskFull {
			t.Errorf("%d: %d", i, e)
		}
		if e := r.s.Compact(); e != c.compacts {
			t.Errorf("%d: Compact: %d, want %d", i, e, c.compacts)
		}
		if e := c.do(r); e != c.then {
			t.Errorf("%d: then %d, want %d", i, e, c.then)
		}
	}
}

// short wants that the log was made short.
func (r *rig) short() {
	r.t.Helper()
	if n := r.logged(); n > room/2 {
		r.t.Errorf("the log has %d bytes", n)
	}
}

// answers1 says what became of the delivery that the link 0.1 holds, and wants that it is told it is settled.
func (p *peer) answers1(s api.State) {
	p.t.Helper()
	p.answers(1, 0, s)
}

// The chapter's word: where there is no room the log is made short, and the call made once more, which counts: of Apply, Back, Bury and Expire.
func TestCompactHelps(t *testing.T) {
	r, p := littered(t, 900)
	p.sends(0, "t", sized(900), accepted)
	r.numbers("q", "5")
	r.short()
	r, p = littered(t, 900)
	p.answers1(rejected("no"))
	r.numbers("p")
	r.numbers("d", "5")
	r.short()
	r, p = littered(t, 900)
	p.answers1(failed)
	r.numbers("d", "5 failed")
	r.short()
	r, p = tailed(t)
	p.sends(0, "t", sized(1), accepted)
	r.numbers("q", "3 held", "4")
	r.short()
	for _, s := range []api.State{accepted, rejected("no"), failed} {
		r, p = tailed(t)
		p.answers1(s)
		r.numbers("q")
		r.short()
		if behind := r.behindFall(); len(behind.Entries("q")) > 0 || len(behind.Entries("d")) != len(r.s.Entries("d")) {
			t.Errorf("behind a fall: %s", stored(behind))
		}
	}
	// What is over; what is sent settled; what the end refuses.
	for i, turn := range []func(p *api.Perform){nil, settling, atMost(5)} {
		r, p = tailed(t)
		p.detaches(1)
		if turn == nil {
			wantErrno(t, "Tick", r.b.Tick(100), api.OK)
		} else {
			p.receiver("n", "queue/q", turn)
			p.credits(1, 1)
			p.move()
		}
		r.numbers("q")
		r.short()
		if i == 2 {
			r.numbers("d", "4")
		}
	}
}

// The chapter's word: what needs no room is done without that; the log is made short for nothing else.
func TestNotCompacted(t *testing.T) {
	for _, make := range []func(t *testing.T) (*rig, *peer){tailed, brimful, crowded, func(t *testing.T) (*rig, *peer) { return littered(t, 900) }} {
		r, p := make(t)
		before := disked(r.d)
		p.sends(0, "t", text("x", 4), accepted) // not durable
		p.answers1(released)
		p.attaches(receives("y", "", dynamic), "attach #")
		wantErrno(t, "Tick", r.b.Tick(99), api.OK)
		p.detaches(1)
		if after := disked(r.d); after != before {
			t.Errorf("%s\nbefore: %s", after, before)
		}
	}
	// A queue that is full is another thing than a disk that is.
	r, p := littered(t, 900)
	for range 9 {
		p.sends(0, "t", text("x", 4), accepted)
	}
	before := disked(r.d)
	p.sends(0, "t", sized(900), rejected("resource-limit-exceeded"))
	if after := disked(r.d); after != before {
		t.Errorf("%s\nbefore: %s", after, before)
	}
}

// The chapter's word: where there is no room even then, what the second call answers counts; where the log can't be made short, what the first one answered. A message is rejected; what became of one is let go: it is held still, and its receiver is told that it is settled.
func TestCompactDoesNotHelp(t *testing.T) {
	noRoom := rejected("resource-limit-exceeded")
	r, p := littered(t, 3950)
	p.sends(0, "t", sized(3950), noRoom)
	r.numbers("q")
	r.short()
	for _, s := range []api.State{rejected("no"), failed} {
		r, p = littered(t, 3950)
		p.answers1(s)
		r.numbers("p", "4 held")
		r.numbers("d")
		r.short()
		p.detaches(1)
		r.numbers("p", "4")
	}
	r, p = crowded(t)
	before := stored(r.s) + disked(r.d)
	p.sends(0, "t", sized(900), noRoom)
	p.sendsSettled(0, "t", sized(900), none)
	p.answers1(rejected("no"))
	if after := stored(r.s) + disked(r.d); after != before {
		t.Errorf("%s\nbefore: %s", after, before)
	}
	r, p = crowded(t)
	p.says(1, 0, failed, true)
	p.wants()
	if after := stored(r.s) + disked(r.d); after != before {
		t.Errorf("%s\nbefore: %s", after, before)
	}
	for _, s := range []api.State{accepted, rejected("no"), failed} {
		r, p = brimful(t)
		before := stored(r.s) + disked(r.d)
		p.sends(0, "t", sized(1), noRoom)
		p.answers1(s)
		wantErrno(t, "Tick", r.b.Tick(50), api.OK)
		if after := stored(r.s) + disked(r.d); after != before {
			t.Errorf("%s\nbefore: %s", after, before)
		}
		p.credits(1, 1) // it is not given again, as long as the link has it
		p.wants("got 0.1 #1 " + said(r.s.Entries("q")[1].Data))
		p.detaches(1)
		r.numbers("q", "1", "2")
		wantErrno(t, "Tick", r.b.Tick(100), api.OK) // it is over, and stays
		r.numbers("q", "1", "2")
	}
	// What is sent settled, or refused by the end, is not sent again, as long as the link has it.
	for _, turn := range []func(p *api.Perform){settling, atMost(5)} {
		r, p = brimful(t)
		p.detaches(1)
		p.receiver("n", "queue/q", turn)
		p.credits(1, 9)
		p.move()
		n := len(p.seen)
		r.numbers("q", "1 held", "2 held")
		wantErrno(t, "Tick", r.b.Tick(50), api.OK)
		p.move()
		if len(p.seen) != n {
			t.Errorf("%q", p.seen)
		}
		p.seen = nil
		p.detaches(1)
		r.numbers("q", "1", "2")
	}
}

// The chapter's word: where the power fails while the log is made short, or in the second call, the store is down.
func TestPowerFailsInCompact(t *testing.T) {
	for _, size := range []int{900, 3950} {
		for n := range 5 {
			for i, do := range []func(p *peer){
				func(p *peer) { p.sendsOnly(0, "t", sized(size), false, none) },
				func(p *peer) { p.says(1, 0, rejected("no"), true) },
				func(p *peer) { p.says(1, 0, failed, false) },
			} {
				r, p := littered(t, size)
				before := stored(r.s)
				do(p)
				r.d.Arm(n, 7)
				e := r.b.Feed(p.n, p.c.Out())
				if size == 3950 && n >= 3 { // the second call makes no act
					wantErrno(t, "Feed", e, api.OK)
					continue
				}
				wantErrno(t, "Feed", e, api.ErrDown)
				r.isDown()
				if after := stored(r.s); after != before {
					t.Errorf("%d, act %d: %s\nbefore: %s", i, n, after, before)
				}
			}
		}
	}
}

// P23.7, the chapter's word: what the transactions call isn't made again: without room a transaction is gone, though the log could be made short.
func TestTransactionIsNotMadeAgain(t *testing.T) {
	r, p := littered(t, 900)
	x := p.sender("x", "txns")
	p.declares(x, "t1")
	p.sendsAs(0, "t", sized(900), within("t1"), within("t1", accepted))
	before := stored(r.s) + disked(r.d)
	p.discharges(x, "t1", false, rejected("transaction-rollback"))
	if after := stored(r.s) + disked(r.d); after != before {
		t.Errorf("%s\nbefore: %s", after, before)
	}
	p.discharges(x, "t1", false, rejected("unknown-id"))
}
