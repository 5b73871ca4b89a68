package broker_test

import (
	"fmt"
	"strings"
	"testing"

	"longshore/api"
	"longshore/disk"
)

// busy is a rig with what may be done to its store: the queue q {Dead d, Tries 1}, both durable, in which lie three durable messages that the link 0.0 holds, and one that is free, whose time is over at 100; a sender to q at 0.1, one to txns at 0.2, with the transaction t1, which puts a message and is done with another one, and t2, which is empty; a link that copies q at 0.3, one that settles, from the queue e, at 0.4; one of a private queue at 0.5; a sender to a topic that leads nowhere at 0.6; one from q without credit at 0.7, which takes short messages alone.
func busy(t *testing.T, d *disk.Disk) (*rig, *peer) {
	t.Helper()
	r := over(t, d, declare(dying(lasting("q", 9), "d", 1)), declare(lasting("d", 9)), declare(lasting("e", 9)))
	for i, s := range []string{"a", "b", "c", great} {
		e := entry(i+1, 9-i, text(s, 4))
		e.Durable = true
		if i == 3 {
			e.Expiry = 100
		}
		r.apply(put("q", e))
	}
	p := r.join()
	p.credits(p.receiver("l", "queue/q"), 3)
	p.wants("got 0.0 #0 a", "got 0.0 #1 b", "got 0.0 #2 c")
	s, x := p.sender("s", "queue/q"), p.sender("x", "txns")
	p.declares(x, "t1")
	p.sendsAs(s, "p", text("p", 4, durable), within("t1"), within("t1", accepted))
	p.answers(0, 2, within("t1", accepted))
	p.declares(x, "t2")
	p.receiver("c", "queue/q", copying)
	p.receiver("e", "queue/e", settling)
	p.receiver("y", "", dynamic)
	p.sender("n", "topic/none")
	p.receiver("short", "queue/q", atMost(200))
	return r, p
}

// doing is something that a peer of a busy rig does, by bytes or by the time; the store is called for it.
type doing struct {
	name string
	do   func(p *peer)
	tick int // the time that is told then; 0: none
}

func doings() []doing {
	send := func(h int, data []byte, s api.State) func(p *peer) {
		return func(p *peer) { p.sendsOnly(h, "t", data, false, s) }
	}
	say := func(tag int, s api.State) func(p *peer) {
		return func(p *peer) { p.says(0, tag, s, false) }
	}
	return []doing{
		{"a message", send(1, text("new", 4, durable), none), 0},
		{"accepted", say(0, accepted), 0},
		{"rejected", say(0, rejected("no")), 0},
		{"failed", say(0, failed), 0},
		{"Discharge", send(2, discharging("t1", false), none), 0},
		{"sent settled", func(p *peer) { p.credits(4, 1) }, 0},
		{"refused by the end", func(p *peer) { p.credits(7, 1) }, 0},
		{"Tick", func(p *peer) {}, 100},
	}
}

// plainDoings are some for which the store is called, though nothing is written.
func plainDoings() []doing {
	return []doing{
		{"a message that is not durable", func(p *peer) { p.sendsOnly(1, "t", text("new", 4), false, none) }, 0},
		{"released", func(p *peer) { p.says(0, 0, released, false) }, 0},
		{"not taken by a transaction", func(p *peer) { p.says(0, 0, within("t9", accepted), false) }, 0},
		{"Discharge of nothing", func(p *peer) { p.sendsOnly(2, "t", discharging("t2", false), false, none) }, 0},
		{"Detach", func(p *peer) { p.c.Detach(0, 0, true, api.Fault{}) }, 0},
		{"Detach of what copies", func(p *peer) { p.c.Detach(0, 3, true, api.Fault{}) }, 0},
		{"Detach of a private queue", func(p *peer) { p.c.Detach(0, 5, true, api.Fault{}) }, 0},
		{"End", func(p *peer) { p.c.End(0, api.Fault{}) }, 0},
		{"Close", func(p *peer) { p.c.Close(api.Fault{}) }, 0},
		{"a private queue", func(p *peer) { p.attachesOnly(0, receives("new", "", dynamic)) }, 0},
		{"a topic", func(p *peer) { p.attachesOnly(0, receives("new", "topic/#")) }, 0},
		{"Tick", func(p *peer) {}, 1},
	}
}

// run lets it be done; what the broker answers.
func (x doing) run(p *peer) api.Errno {
	x.do(p)
	if b := p.c.Out(); len(b) > 0 {
		return p.b.Feed(p.n, b)
	}
	return p.b.Tick(x.tick)
}

// prepared is a busy rig; for what is sent settled there is a message in e.
func prepared(t *testing.T, x doing, d *disk.Disk) (*rig, *peer) {
	t.Helper()
	r, p := busy(t, d)
	if x.name == "sent settled" {
		e := entry(5, 4, text("e", 4))
		e.Durable = true
		r.apply(put("e", e))
	}
	return r, p
}

// The chapter's word: the store is down where it has answered so, not earlier: of what makes no call of it nothing is refused, and all goes out.
func TestNotKnownToBeDown(t *testing.T) {
	r, p := busy(t, disk.New(maxDisk))
	r.d.Crash(0)
	p.feeds(nil)
	p.begin("begin 1")
	p.sends(6, "t", text("x", 4, durable), accepted) // to a topic that leads nowhere
	p.sends(2, "d", declaring(), declared("t3"))
	p.sendsAs(1, "t", text("x", 4, durable), within("t3"), within("t3", accepted))
	p.sendsAs(1, "t", text("x", 4, durable), within("t9"), within("t9", rejected("not-found")))
	p.discharges(2, "t3", true, accepted)
	p.discharges(2, "t3", false, rejected("unknown-id"))
	p.sends(1, "t", []byte("none"), rejected("decode-error"))
	p.answers(0, 1, within("t2", released))
	p.credits(0, 5)
	p.wants()
	p.credits(3, 1)
	p.wants("got 0.3 #0 " + said(text(great, 4)))
	p.answers(3, 0, accepted)
	p.credits(p.receiver("shorter", "queue/q", copying, atMost(200)), 1) // what the end refuses is passed over
	p.wants()
	p.attachesAt(0, sends("new", "queue/q"), "attach #", "flow # 16")
	l := p.attachesAt(1, receives("new", "queue/q"), "attach #")
	p.attachesAt(0, sends("none", "queue/none"), "refused #", "detach # not-found")
	p.detaches(1)
	wantErrno(t, "Credit", p.c.Credit(1, l, 5, true), api.OK)
	p.wants("flow 1.0 0 count 5 drain")
	r.join()
	wantErrno(t, "Tick", r.b.Tick(1), api.ErrDown)
	r.isDown()
}

// P23.2, P23.3, P23.4: with the disk down, each call of the store is answered so, and the broker's too: nothing of it was done, nothing is done later, but that connections come and go.
func TestDiskIsDown(t *testing.T) {
	for _, x := range append(doings(), plainDoings()...) {
		if x.name == "sent settled" || x.name == "refused by the end" {
			continue // nothing is taken of a store that is down
		}
		r, p := prepared(t, x, disk.New(maxDisk))
		r.d.Crash(0)
		before := stored(r.s)
		wantErrno(t, x.name, x.run(p), api.ErrDown)
		r.isDown()
		if n, e := r.b.Join(server()); n != 2 || e != api.OK {
			t.Errorf("%s: Join: %d, %d", x.name, n, e)
		}
		r.isDown()
		wantErrno(t, "Leave", r.b.Leave(1), api.OK)
		wantErrno(t, "Leave", r.b.Leave(1), api.ErrNoConn)
		wantConns(t, r.b, 2)
		r.isDown()
		if n, e := r.b.Join(server()); n != 1 || e != api.OK {
			t.Errorf("%s: Join: %d, %d", x.name, n, e)
		}
		if _, e := r.b.Join(client()); e != api.ErrArg {
			t.Errorf("%s: Join: %d", x.name, e)
		}
		if after := stored(r.s); after != before {
			t.Errorf("%s: %s\nbefore: %s", x.name, after, before)
		}
		r.d.Start() // it is down all the same
		r.isDown()
	}
	// Leave finds it down, and answers OK; nothing is served then.
	r, p := busy(t, disk.New(maxDisk))
	other := r.join()
	other.credits(other.receiver("r", "queue/q", copying), 9)
	other.wants("got 0.0 #0 " + said(text(great, 4)))
	r.d.Crash(0)
	p.leaves()
	r.isDown()
	wantConns(t, r.b, 2)
	// It is down already, though the disk is up again: nothing is served.
	r, p = busy(t, disk.New(maxDisk))
	other = r.join()
	other.credits(other.receiver("r", "queue/q", atMost(20)), 9)
	r.apply(remove("q", 4))
	other.wants()
	r.d.Crash(0)
	wantErrno(t, "Tick", r.b.Tick(0), api.ErrDown)
	r.d.Start()
	wantErrno(t, "Release", r.s.Release(1), api.OK) // what it has may be taken
	p.leaves()
	for _, e := range r.s.Entries("q") {
		if e.Holder > 5 {
			t.Errorf("it is served: %s", lying(e))
		}
	}
	r.isDown()
}

// P23.3, P23.4, P0.4: at whichever act of whatever is done the power fails, with any keep: the broker answers ErrDown, and is down; the store stands as it was, and behind a restart is as it was, or as it would be.
func TestPowerFails(t *testing.T) {
	acts := map[string]int{}
	for _, x := range doings() {
		r, p := prepared(t, x, disk.New(maxDisk))
		ahead := stored(r.behindFall())
		wantErrno(t, x.name, x.run(p), api.OK)
		behind := stored(r.behindFall())
		if ahead == behind {
			t.Errorf("%s: nothing is written", x.name)
		}
		for n, done := 0, false; !done; n++ {
			for _, keep := range []int{-1, 0, 1, 9, 40, 1 << 40} {
				r, p := prepared(t, x, disk.New(maxDisk))
				before := stored(r.s)
				r.d.Arm(n, keep)
				e := x.run(p)
				done = r.d.Up()
				if done {
					wantErrno(t, x.name, e, api.OK)
					break
				}
				wantErrno(t, x.name, e, api.ErrDown)
				r.isDown()
				switch x.name { // what was to be sent was taken
				case "sent settled":
					before = strings.Replace(before, "5/4 e durable", "5/4 e durable held 3", 1)
				case "refused by the end":
					before = strings.Replace(before, "until 100", "until 100 held 5", 1)
				}
				if after := stored(r.s); after != before {
					t.Errorf("%s, act %d: %s\nbefore: %s", x.name, n, after, before)
				}
				got := stored(r.behindFall())
				if got != ahead && got != behind {
					t.Errorf("%s, act %d, keep %d: %s\nahead: %s\nbehind: %s", x.name, n, keep, got, ahead, behind)
				}
				acts[fmt.Sprint(n, " ", got == behind)]++
			}
		}
	}
	for _, want := range []string{"0 false", "0 true", "1 false", "1 true"} {
		if acts[want] < 8 {
			t.Errorf("act %s: %d times", want, acts[want])
		}
	}
}

// P23.3: what was not done when the store went down is not done: of the items of a chunk, of the events of an item, of what is served; and the end is not fed on.
func TestNotDoneYet(t *testing.T) {
	r, p := busy(t, disk.New(maxDisk))
	p.sendsOnly(1, "a", text("a2", 4, durable), false, none)
	p.sendsOnly(1, "b", text("b2", 4, durable), false, none)
	p.says(0, 0, released, false)
	p.c.Close(api.Fault{Cond: "enough"})
	r.d.Arm(2, 0) // the second message's append
	wantErrno(t, "Feed", r.b.Feed(p.n, p.c.Out()), api.ErrDown)
	if over, _ := r.b.Over(p.n); over {
		t.Error("it was fed on")
	}
	there := "4/6 " + said(text(great, 4)) + " durable until 100"
	r.lies("q", "1/9 a durable held 1", "2/8 b durable held 1", "3/7 c durable held 1", there, "5/4 a2 durable")
	r.isDown()
	// Three events of one item.
	for n := range 3 {
		r, p = busy(t, disk.New(maxDisk))
		p.credits(0, 9)
		p.wants("got 0.0 #3 " + said(text(great, 4)))
		r.d.Arm(2*n, 0)
		wantErrno(t, "Feed", r.b.Feed(p.n, framed(0, api.Perform{Kind: api.KDisposition, Receiver: true, First: 0, Last: 9, Settled: true, State: accepted})), api.ErrDown)
		if left := len(r.s.Entries("q")); left != 4-n {
			t.Errorf("behind %d: %q", n, lyingAll(r.s.Entries("q")))
		}
		r.isDown()
	}
	// Several messages that are sent settled: the one with which it went down was taken, those behind it were not.
	r, p = busy(t, disk.New(maxDisk))
	for i := range 3 {
		e := entry(5+i, 4, text(letter(i), 4))
		e.Durable = true
		r.apply(put("e", e))
	}
	p.credits(4, 3)
	r.d.Arm(3, 0)
	wantErrno(t, "Feed", r.b.Feed(p.n, p.c.Out()), api.ErrDown)
	r.lies("e", "6/4 b durable held 3", "7/4 c durable")
	r.isDown()
	// A Tick: what is over stays, no end is told the time.
	r, p = busy(t, disk.New(maxDisk))
	idle := r.join(func(own, peer *api.ConnConfig) { own.Idle = 10 })
	r.d.Arm(0, 0)
	wantErrno(t, "Tick", r.b.Tick(100), api.ErrDown)
	if over, _ := r.b.Over(idle.n); over {
		t.Error("it is over")
	}
	r.lies("q", "1/9 a durable held 1", "2/8 b durable held 1", "3/7 c durable held 1", there)
}
