package conn_test

import (
	"math"
	"testing"

	"longshore/api"
	"longshore/conn"
)

// halves is an end that receives on a whole link "l" (0, 7), sends on a whole one "s" (1, 8), and has one alone (2).
func halves(t *testing.T) *conn.Conn {
	t.Helper()
	c := linked(t, true)
	attach(t, c, "s", 1, 8, false)
	wantAttach(t, c, attachOf("alone", 0, true), 2)
	return c
}

// P15.14: the errors of Credit and of Drained, in their order.
func TestCreditRefused(t *testing.T) {
	again := func() *conn.Conn { return halves(t) }
	credit := func(channel, handle, n int) func(c *conn.Conn) api.Errno {
		return func(c *conn.Conn) api.Errno { return c.Credit(channel, handle, n, true) }
	}
	drained := func(channel, handle int) func(c *conn.Conn) api.Errno {
		return func(c *conn.Conn) api.Errno {
			if is, e := c.Drained(channel, handle); !is {
				return e
			}
			return -1
		}
	}
	for _, n := range numbers {
		wantRefused(t, "Credit", again, api.ErrNoSess, credit(n, 0, -1))
		wantRefused(t, "Drained", again, api.ErrNoSess, drained(n, 0))
		if n != 1 && n != 2 {
			wantRefused(t, "Credit", again, api.ErrNoLink, credit(0, n, -1))
			wantRefused(t, "Drained", again, api.ErrNoLink, drained(0, n))
		}
	}
	for _, n := range []int{-1, 0, 5} {
		wantRefused(t, "Credit", again, api.ErrState, credit(0, 2, n))
		wantRefused(t, "Credit of a sender", again, api.ErrState, credit(0, 1, n))
	}
	wantRefused(t, "Drained", again, api.ErrState, drained(0, 2))
	for _, n := range []int{-1, 1 << 31, maxWord, math.MinInt, math.MaxInt} {
		wantRefused(t, "Credit", again, api.ErrArg, credit(0, 0, n))
	}
	// Drained of a receiver, and of a sender that is not to drain, is false without an error, and changes nothing.
	wantRefused(t, "Drained", again, api.OK, drained(0, 0))
	wantRefused(t, "Drained", again, api.OK, drained(0, 1))
}

// P15.14: Credit writes a link's Flow: the session's fields, and the link's.
func TestCredit(t *testing.T) {
	c := halves(t)
	session := sessionFlow(maxWord-1, 4, 0, maxWord)
	for _, x := range []struct {
		credit int
		drain  bool
	}{{3, false}, {2, true}, {0, true}, {1<<31 - 1, false}, {9, false}} {
		wantErrno(t, "Credit", c.Credit(0, 0, x.credit, x.drain), api.OK)
		wantOut(t, c, framed(0, linkFlow(session, 0, 0, x.credit, -1, x.drain && x.credit > 0)))
		if l := c.Links(0)[0]; l.Credit != x.credit {
			t.Errorf("%+v", l)
		}
	}
	// The numbers go on with what has come.
	c.Feed(framed(2, transferOf(7, 3, "t", false)))
	c.Credit(0, 0, 5, false)
	wantOut(t, c, framed(0, linkFlow(sessionFlow(maxWord, 3, 0, maxWord), 0, 1, 5, -1, false)))
}

// P15.14: a link's Flow on which we receive does not wait, also where something waits.
func TestCreditDoesNotWait(t *testing.T) {
	c := blocked(t)
	attach(t, c, "r", 2, 5, true)
	wantErrno(t, "Credit", c.Credit(0, 2, 5, false), api.OK)
	wantOut(t, c, framed(0, linkFlow(sessionFlow(maxWord-1, 4, 3, maxWord), 2, 0, 5, -1, false)))
}

// P15.14: Drained gives up the credit, and writes a link's Flow; it waits behind what waits, with the link's fields of then, and the session's of when it is written.
func TestDrained(t *testing.T) {
	draining := func() *conn.Conn {
		c := linked(t, false)
		p := linkFlow(sessionFlow(0, 3, maxWord-1, 9), 7, 0, 5, -1, true)
		wantEvents(t, c.Feed(framed(2, p)), evOf(api.EvFlow, 0, 0, p))
		return c
	}
	c := draining()
	is, e := c.Drained(0, 0)
	if !is || e != api.OK {
		t.Fatalf("Drained: %v, %d", is, e)
	}
	wantOut(t, c, framed(0, linkFlow(sessionFlow(maxWord-1, 4, 0, maxWord), 0, 5, 0, 0, true)))
	is, e = c.Drained(0, 0)
	if is || e != api.OK {
		t.Fatalf("Drained again: %v, %d", is, e)
	}
	wantOut(t, c)

	c = draining()
	_, e = c.Send(0, 0, "t", filled(3000), true, api.State{}) // five frames
	wantErrno(t, "Send", e, api.OK)
	c.Out()
	if is, e = c.Drained(0, 0); !is || e != api.OK {
		t.Fatalf("Drained: %v, %d", is, e)
	}
	wantOut(t, c)
	p := linkFlow(sessionFlow(3, 1, maxWord, 9), 7, 5, 9, -1, false)
	wantEvents(t, c.Feed(framed(2, p)), evOf(api.EvFlow, 0, 0, p))
	if out := c.Out(); len(out) == 0 || len(out) > 700 {
		t.Fatalf("Out:%s", lines(out))
	}
	c.Feed(framed(2, sessionFlow(4, 9, maxWord, 9)))
	out := c.Out()
	want := framed(0, linkFlow(sessionFlow(maxWord, 4, 5, maxWord), 0, 5, 0, 0, true))
	if len(out) < len(want) || string(out[len(out)-len(want):]) != string(want) {
		t.Fatalf("Out:%s\nwant at last:%s", lines(out), lines(want))
	}
}

// P15.15: a Flow that the session does not take: it fails with invalid-field.
func TestPeersFlowInvalid(t *testing.T) {
	for _, p := range []api.Perform{sessionFlow(1, 9, 0, 0), sessionFlow(5, 9, 0, 0), sessionFlow(maxWord, 0, 0, 0), sessionFlow(1<<31-1, maxWord, 0, 0)} {
		for _, handle := range []int{-1, 7, 9} {
			c := halves(t)
			p.Handle, p.Echo = handle, true
			wantEvents(t, c.Feed(framed(2, p)), evEnd(0, faultOf("invalid-field")))
			wantOut(t, c, framed(0, endOf(faultOf("invalid-field"))))
			wantNoSession(t, c, 0)
		}
	}
	// More under way than the window that it tells.
	c := blocked(t)
	wantEvents(t, c.Feed(framed(2, sessionFlow(0, 2, maxWord-1, 9))), evEnd(0, faultOf("invalid-field")))
	c.Out()
	c = blocked(t)
	wantEvents(t, c.Feed(framed(2, sessionFlow(-1, 3, maxWord-1, 9))))
	wantOut(t, c)
}

// P15.15: a Flow of a handle that is no link's: the session fails with unattached-handle, behind what the session took.
func TestPeersFlowUnattached(t *testing.T) {
	for _, handle := range []int{0, 1, 2, 9, 64, maxWord} {
		c := halves(t) // the peer's handles are 7 and 8
		p := linkFlow(sessionFlow(0, 3, maxWord-1, 9), handle, 0, 5, -1, false)
		p.Echo = true
		wantEvents(t, c.Feed(framed(2, p)), evEnd(0, faultOf("unattached-handle")))
		wantOut(t, c, framed(0, endOf(faultOf("unattached-handle"))))
		wantNoSession(t, c, 0)
	}
}

// P15.15: a link takes its Flow; one that is not whole, or was detached by us, takes nothing; one of the session alone is no event.
func TestPeersFlow(t *testing.T) {
	session := sessionFlow(0, 3, maxWord-1, 9)
	c := halves(t)
	wantEvents(t, c.Feed(framed(2, session)))
	p := linkFlow(session, 8, 0, 5, -1, true)
	p.Props = nested(3)
	wantEvents(t, c.Feed(framed(2, p)), evOf(api.EvFlow, 0, 1, p))
	if l := c.Links(0)[1]; l.Credit != 5 || !l.Drain {
		t.Errorf("%+v", l)
	}
	p = linkFlow(session, 7, 0, -1, 66, false)
	wantEvents(t, c.Feed(framed(2, p)), evOf(api.EvFlow, 0, 0, p))
	if l := c.Links(0)[0]; l.Available != 66 {
		t.Errorf("%+v", l)
	}
	// Again the same: it is an event each time.
	wantEvents(t, c.Feed(framed(2, p)), evOf(api.EvFlow, 0, 0, p))
	wantOut(t, c)

	q := attachOf("unanswered", 9, true)
	wantEvents(t, c.Feed(framed(2, q)), evOf(api.EvAttach, 0, -1, q))
	wantEvents(t, c.Feed(framed(2, linkFlow(session, 9, 0, 5, -1, false))))
	wantAttach(t, c, attachOf("unanswered", 0, false), 3)
	if l := c.Links(0)[2]; l.Credit != 0 {
		t.Errorf("%+v", l)
	}
	wantErrno(t, "Detach", c.Detach(0, 1, true, api.Fault{}), api.OK)
	c.Out()
	wantEvents(t, c.Feed(framed(2, linkFlow(session, 8, 0, 5, -1, false))))
	wantOut(t, c)
}

// P15.15: an echo: a link's Flow of a whole link, else one of the session; neither asks for an echo.
func TestEcho(t *testing.T) {
	asks := func(p api.Perform) api.Perform {
		p.Echo = true
		return p
	}
	session, own := sessionFlow(0, 3, maxWord-1, 9), sessionFlow(maxWord-1, 4, 0, maxWord)
	c := halves(t)
	c.Credit(0, 0, 6, true)
	c.Out()
	wantEvents(t, c.Feed(framed(2, asks(session))))
	wantOut(t, c, framed(0, own))

	p := asks(linkFlow(session, 7, -1, -1, -1, false))
	wantEvents(t, c.Feed(framed(2, p)), evOf(api.EvFlow, 0, 0, p))
	wantOut(t, c, framed(0, linkFlow(own, 0, 0, 6, -1, true)))

	p = asks(linkFlow(session, 8, 0, 5, -1, true))
	wantEvents(t, c.Feed(framed(2, p)), evOf(api.EvFlow, 0, 1, p))
	wantOut(t, c, framed(0, linkFlow(own, 1, 0, 5, 0, true)))

	// Not whole, or detached by us.
	c.Feed(framed(2, attachOf("unanswered", 9, true)))
	wantEvents(t, c.Feed(framed(2, asks(linkFlow(session, 9, 0, 5, -1, false)))))
	wantOut(t, c, framed(0, own))
	c.Detach(0, 1, true, api.Fault{})
	c.Out()
	wantEvents(t, c.Feed(framed(2, asks(linkFlow(session, 8, 0, 5, -1, false)))))
	wantOut(t, c, framed(0, own))
}

// P15.15, P15.16: what waits is written at last; an echo of the session ahead of it, one of a link on which we send behind it.
func TestEchoAndWhatWaits(t *testing.T) {
	transfer, disposition := framed(0, transferOf(0, 3, "d", false)), framed(0, dispositionOf(false, 0, -1, false, accepted))
	p := sessionFlow(3, 9, maxWord-1, 9)
	p.Echo = true
	c := blocked(t)
	c.Feed(framed(2, p))
	wantOut(t, c, framed(0, sessionFlow(maxWord-1, 4, 3, maxWord)), transfer, disposition)

	c = blocked(t)
	q := linkFlow(p, 3, 0, 7, -1, false)
	wantEvents(t, c.Feed(framed(2, q)), evOf(api.EvFlow, 0, 1, q))
	wantOut(t, c, transfer, disposition, framed(0, linkFlow(sessionFlow(maxWord-1, 4, 4, maxWord), 1, 1, 6, 0, false)))

	// Without room it waits, and has the link's fields of when it came to wait.
	c = blocked(t)
	q.InWin = 0
	wantEvents(t, c.Feed(framed(2, q)), evOf(api.EvFlow, 0, 1, q))
	wantOut(t, c)
	later := linkFlow(sessionFlow(3, 0, maxWord-1, 9), 3, 0, 2, -1, true)
	wantEvents(t, c.Feed(framed(2, later)), evOf(api.EvFlow, 0, 1, later))
	wantOut(t, c)
	c.Feed(framed(2, sessionFlow(3, 9, maxWord-1, 9)))
	wantOut(t, c, transfer, disposition, framed(0, linkFlow(sessionFlow(maxWord-1, 4, 4, maxWord), 1, 1, 6, 0, false)))
}
