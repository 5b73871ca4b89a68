package broker_test

import (
	"fmt"
	"testing"

	"longshore/api"
)

// ending is a rig whose first connection has links of each kind in two sessions, each with something of its own, and a transaction; a second one waits for what is free.
type ending struct {
	*rig
	p, other *peer
}

func newEnding(t *testing.T) *ending {
	t.Helper()
	r := made(t, declare(passing("q", 9)), declare(passing("e", 9)))
	for i := range 4 {
		r.apply(put("q", entry(i+1, 4, text(letter(i), 4))))
	}
	p, other := r.join(), r.join()
	p.begin("begin 1")
	p.receiver("a", "queue/q")                                        // 0.0, holder 1
	p.receiver("b", "", dynamic)                                      // 0.1, holder 2, tmp-1
	p.attachesAt(1, receives("c", "queue/q"), "attach #")             // 1.0, holder 3
	p.attachesAt(1, receives("d", "topic/x.*"), "attach #")           // 1.1, holder 4, sub-2
	p.attachesAt(1, receives("e", "queue/q", copying), "attach #")    // 1.2, holder 5
	p.attachesAt(0, sends("s", "queue/e"), "attach #", "flow # 16")   // 0.2
	p.attachesAt(0, sends("t", "txns"), "attach #", "flow # 16")      // 0.3
	p.attachesAt(1, sends("u", "topic/x.y"), "attach #", "flow # 16") // 1.3
	p.sends(3, "d", declaring(), declared("t1"))
	p.credits(0, 2)
	p.wants("got 0.0 #0 a", "got 0.0 #1 b")
	wantErrno(t, "Credit", p.c.Credit(1, 0, 1, false), api.OK)
	p.wants("got 1.0 #0 c")
	other.credits(other.receiver("r", "queue/q"), 9) // holder 6
	other.wants("got 0.0 #0 d")
	p.sendsAs(2, "y", text("y", 4), within("t1"), within("t1", accepted))
	p.answers(0, 1, within("t1", accepted))
	r.queues("e", "q", "sub-2", "tmp-1")
	r.lies("q", "1/4 a held 1", "2/4 b held 1", "3/4 c held 3", "4/4 d held 6")
	return &ending{r, p, other}
}

// goneOf wants that what was in these sessions of the first connection has gone, and what was in others has not.
func (x *ending) goneOf(sessions ...int) {
	x.t.Helper()
	gone := map[int]int{}
	for _, channel := range sessions {
		gone[channel]++
	}
	switch {
	case gone[0]+gone[1] == 2:
		x.queues("e", "q")
		x.other.wants("got 0.0 #1 a", "got 0.0 #2 b", "got 0.0 #3 c")
	case gone[0] == 1:
		x.queues("e", "q", "sub-2")
		x.other.wants("got 0.0 #1 a", "got 0.0 #2 b")
	case gone[1] == 1:
		x.queues("e", "q", "tmp-1")
		x.other.wants("got 0.0 #1 c")
	}
}

// transactionIs wants that the transaction of the first connection is open, or that it is not.
func (x *ending) transactionIs(open bool) {
	x.t.Helper()
	n := 1
	if !open {
		n = 0
	}
	l := x.other.sender("t", "txns")
	for ; n < maxTxns; n++ {
		x.other.sendsSettled(l, "d", declaring(), none)
	}
	x.other.sends(l, "d", declaring(), rejected("resource-limit-exceeded"))
}

// P23.10: a link that its peer detaches, closed or not, or that fails: what its holder has goes back, its private queue goes; nothing else.
func TestLinkEnds(t *testing.T) {
	for i, end := range []func(x *ending, channel, handle int){
		func(x *ending, channel, handle int) {
			wantErrno(t, "Detach", x.p.c.Detach(channel, handle, true, api.Fault{Cond: "enough"}), api.OK)
		},
		func(x *ending, channel, handle int) {
			wantErrno(t, "Detach", x.p.c.Detach(channel, handle, false, api.Fault{}), api.OK)
		},
	} {
		x := newEnding(t)
		end(x, 0, 0)
		x.other.wants("got 0.0 #1 a", "got 0.0 #2 b")
		x.lies("q", "1/4 a held 6", "2/4 b held 6", "3/4 c held 3", "4/4 d held 6")
		x.queues("e", "q", "sub-2", "tmp-1")
		end(x, 0, 1)
		x.move()
		x.queues("e", "q", "sub-2")
		end(x, 1, 1)
		x.move()
		x.queues("e", "q")
		if len(x.s.Bindings()) > 0 {
			t.Errorf("%d: %v", i, x.s.Bindings())
		}
		end(x, 1, 2)
		end(x, 0, 2)
		end(x, 1, 3)
		x.move()
		x.lies("q", "1/4 a held 6", "2/4 b held 6", "3/4 c held 3", "4/4 d held 6")
		x.lies("e")
		end(x, 1, 0)
		x.other.wants("got 0.0 #3 c")
		x.transactionIs(true)
	}
	// A link that fails: by what its peer sends on it, or says of what it was sent.
	x := newEnding(t)
	x.p.feeds(framed(0, with(api.KTransfer, func(p *api.Perform) { p.Handle = 2 })))
	x.p.wants("detach 0.2 not-allowed")
	r := made(t, declare(passing("q", 9)), put("q", entry(1, 4, text("a", 4))), put("q", entry(2, 4, text("b", 4))))
	p := r.join()
	p.credits(p.receiver("a", "queue/q", func(p *api.Perform) { p.RcvMode = api.RcvSecond }), 2)
	p.wants("got 0.0 #0 a", "got 0.0 #1 b")
	p.feeds(framed(0, api.Perform{Kind: api.KDisposition, Receiver: true, First: 1, Last: -1, Settled: true, State: accepted}))
	p.wants("detach 0.0 not-allowed")
	r.lies("q", "1/4 a", "2/4 b")
	p.credits(p.receiver("a", "queue/q"), 2)
	p.wants("got 0.0 #0 a", "got 0.0 #1 b")
}

// P23.10: a session that its peer ends, or that fails: so its links, from the least handle on; those of the other session stay.
func TestSessionEnds(t *testing.T) {
	for channel := range 2 {
		for _, end := range []func(x *ending){
			func(x *ending) {
				wantErrno(t, "End", x.p.c.End(channel, api.Fault{Cond: "enough"}), api.OK)
				x.p.wants()
			},
			func(x *ending) {
				x.p.feeds(framed(channel, api.Perform{Kind: api.KDetach, Handle: 40}))
				x.p.wants(fmt.Sprintf("end %d unattached-handle", channel))
			},
		} {
			x := newEnding(t)
			end(x)
			x.goneOf(channel)
			x.transactionIs(true)
			end = func(x *ending) {
				wantErrno(t, "End", x.p.c.End(1-channel, api.Fault{}), api.OK)
				x.p.wants()
			}
			end(x)
			if channel == 0 {
				x.other.wants("got 0.0 #3 c")
			} else {
				x.other.wants("got 0.0 #2 a", "got 0.0 #3 b")
			}
			x.queues("e", "q")
			// The connection goes on.
			x.p.begin("begin 0")
			x.p.receiver("a", "queue/q")
		}
	}
}

// P23.10: a connection that its peer closes, or that fails, in a Feed or a Tick, or that leaves: so all its links; its transactions are dropped. What is over stays among the connections, and can do nothing, till it leaves.
func TestConnectionEnds(t *testing.T) {
	for i, end := range []func(x *ending){
		func(x *ending) {
			wantErrno(t, "Close", x.p.c.Close(api.Fault{Cond: "enough"}), api.OK)
			x.p.wants("close ")
		},
		func(x *ending) {
			x.p.feeds([]byte{0, 0, 0, 1})
			x.p.wants("close framing-error")
		},
		func(x *ending) {
			x.p.feeds(framed(3, api.Perform{Kind: api.KEnd}))
			x.p.wants("close not-allowed")
		},
		func(x *ending) { x.p.leaves() },
	} {
		x := newEnding(t)
		end(x)
		x.goneOf(0, 1)
		x.transactionIs(false)
		if i < 3 {
			wantConns(t, x.b, 1, 2)
			before := x.all()
			x.p.feeds(nil)
			x.p.feeds(framed(0, receives("r", "queue/q")))
			if after := x.all(); after != before || len(x.b.Out(1)) > 0 {
				t.Errorf("%s\nbefore: %s", after, before)
			}
			if over, _ := x.b.Over(1); !over {
				t.Error("it is not over")
			}
			x.p.leaves()
		}
		wantConns(t, x.b, 2)
		x.lies("q", "1/4 a held 6", "2/4 b held 6", "3/4 c held 6", "4/4 d held 6")
		x.lies("e")
	}
	// By the time.
	r := made(t, declare(passing("q", 9)), put("q", entry(1, 4, text("a", 4))))
	p, other := r.join(func(own, peer *api.ConnConfig) { own.Idle = 10 }), r.join()
	p.credits(p.receiver("r", "queue/q"), 1)
	p.wants("got 0.0 #0 a")
	p.receiver("s", "topic/#")
	p.sends(p.sender("t", "txns"), "d", declaring(), declared("t1"))
	other.credits(other.receiver("r", "queue/q"), 1)
	other.wants()
	wantErrno(t, "Tick", r.b.Tick(20), api.OK)
	other.wants("got 0.0 #0 a")
	r.queues("q")
	x := &ending{r, p, other}
	x.transactionIs(false)
}

// P23.10: what a link that went had not done with comes again elsewhere, first among its like, with the count that it has.
func TestComesAgain(t *testing.T) {
	r := filled(t, 4, 4)
	p, other := r.join(), r.join()
	l := p.receiver("r", "queue/q")
	for i := range 3 {
		p.credits(l, 1)
		p.wants(fmt.Sprintf("got 0.0 #%d a", i) + []string{"", " count 1", " count 2"}[i])
		p.says(l, i, failed, true)
	}
	p.credits(l, 1)
	p.wants("got 0.0 #3 a count 3")
	other.credits(other.receiver("r", "queue/q"), 9)
	other.wants("got 0.0 #0 b")
	p.detaches(l)
	other.wants("got 0.0 #1 a count 3")
	// Its handle and its name may be used again; the holder is another one.
	l = p.receiver("r", "queue/q")
	p.credits(l, 1)
	other.says(0, 1, released, true)
	other.wants()
	p.wants("got 0.0 #0 a count 3")
	r.lies("q", "1/4 a failed 3 held 3", "2/4 b held 2")
}

// P23.11: whatever else happens is passed over: the Flows of a link on which we receive, a Detach of a link that was not answered, what is said of links that went.
func TestAllElse(t *testing.T) {
	r := made(t, declare(passing("q", 9)))
	p := r.join()
	s := p.sender("s", "queue/q")
	before := r.all()
	flow := with(api.KFlow, func(q *api.Perform) {
		q.NextIn, q.InWin, q.NextOut, q.OutWin, q.Handle, q.Count, q.Credit, q.Available = 0, 1000, 0, maxWord, s, 0, 5, 77
	})
	p.feeds(framed(0, flow))
	if out := r.b.Out(p.n); len(out) > 0 || r.all() != before {
		t.Errorf("%s\n%s", lines(out), r.all())
	}
	flow.Drain, flow.Echo = true, true
	p.feeds(framed(0, flow))
	if out := kinds(r.b.Out(p.n)); out != "flow" || r.all() != before {
		t.Errorf("%s\n%s", out, r.all())
	}
}
