package conn_test

import (
	"slices"
	"testing"

	"longshore/api"
	"longshore/conn"
)

// P15.12: the errors of Detach, in their order.
func TestDetachRefused(t *testing.T) {
	bad := api.Fault{Cond: "Not", Text: long(4000)}
	again := func() *conn.Conn {
		c := sending(t, 2)
		wantAttach(t, c, attachOf("alone", 0, true), 1)
		c.Feed(framed(2, attachOf("unanswered", 3, true)))
		attach(t, c, "m", 2, 9, true)
		wantErrno(t, "Detach", c.Detach(0, 2, true, api.Fault{}), api.OK)
		c.Out()
		return c
	}
	detach := func(channel, handle int, f api.Fault) func(c *conn.Conn) api.Errno {
		return func(c *conn.Conn) api.Errno { return c.Detach(channel, handle, true, f) }
	}
	for _, n := range numbers {
		wantRefused(t, "Detach", again, api.ErrNoSess, detach(n, 0, bad))
		if n != 1 {
			wantRefused(t, "Detach", again, api.ErrNoLink, detach(0, n, bad))
		}
	}
	wantRefused(t, "Detach", again, api.ErrState, detach(0, 1, bad))
	for _, x := range badFaults() {
		wantRefused(t, "Detach", again, x.want, detach(0, 0, x.fault))
	}
	wantRefused(t, "Detach", again, api.ErrTerm, detach(0, 0, bad))
	size := func(n int) int { return len(framed(0, detachOf(0, true, api.Fault{Cond: "x", Text: long(n)}))) }
	n := 300
	for size(n) < 700 {
		n++
	}
	wantRefused(t, "Detach", again, api.ErrLong, detach(0, 0, api.Fault{Cond: "x", Text: long(n + 1)}))
	c := again()
	wantErrno(t, "Detach", c.Detach(0, 0, true, api.Fault{Cond: "x", Text: long(n)}), api.OK)
	if got := len(c.Out()); got != 700 {
		t.Errorf("%d bytes", got)
	}
	// Where no session was answered there is no link.
	unanswered := func() *conn.Conn {
		c := up(t, true)
		c.Begin()
		return c
	}
	wantRefused(t, "Detach", unanswered, api.ErrNoLink, detach(0, 0, api.Fault{}))
}

// P15.12: Detach writes a Detach; the link's deliveries and what waits are gone; what comes for it is passed over, till the peer's Detach.
func TestDetach(t *testing.T) {
	for _, closed := range []bool{false, true} {
		for _, f := range append(noFaults(), faultOf("x"), api.Fault{Cond: "x", Text: "why", Info: nested(28)}) {
			c := sending(t, 5)
			c.Send(0, 0, "t", nil, false, api.State{})
			c.Send(0, 0, "u", filled(3000), false, api.State{})
			c.Out()
			wantErrno(t, "Detach", c.Detach(0, 0, closed, f), api.OK)
			if f.Cond == "" {
				f = api.Fault{}
			}
			wantOut(t, c, framed(0, detachOf(0, closed, f)))
			wantHandles(t, c)
			wantNoLink(t, c, 0)
			wantEvents(t, c.Feed(framed(2, dispositionOf(true, 0, 9, true, accepted))))
			flow := linkFlow(sessionFlow(3, 90, maxWord-1, 9), 7, 0, 9, -1, true)
			wantEvents(t, c.Feed(framed(2, flow)))
			wantOut(t, c)
			wantEvents(t, c.Feed(framed(2, detachOf(7, true, faultOf("y")))))
			wantOut(t, c)
			wantAttach(t, c, attachOf("l", 0, false), 0)
		}
	}
}

// wantNoLink wants that the calls which need a link answer that there is none.
func wantNoLink(t *testing.T, c *conn.Conn, handle int) {
	t.Helper()
	_, send := c.Send(0, handle, "t", nil, false, api.State{})
	_, drained := c.Drained(0, handle)
	for i, e := range []api.Errno{send, drained, c.Detach(0, handle, true, api.Fault{}), c.Credit(0, handle, 1, false), c.Settle(0, handle, "t", accepted, true)} {
		if e != api.ErrNoLink {
			t.Fatalf("call %d: %d", i, e)
		}
	}
}

// P15.12, P15.17: transfers on a link that we have detached are passed over, but the session counts them.
func TestTransfersOfWhatWasDetached(t *testing.T) {
	c := receiving(t, 5)
	p := transferOf(7, 0, "t", false)
	p.More = true
	wantEvents(t, c.Feed(framed(2, p, 1, 2)))
	wantErrno(t, "Detach", c.Detach(0, 0, true, api.Fault{}), api.OK)
	c.Out()
	wantEvents(t, c.Feed(framed(2, api.Perform{Kind: api.KTransfer, Handle: 7, DeliveryId: -1, Format: -1}, 3)))
	wantOut(t, c, framed(0, sessionFlow(0, 4, 0, maxWord))) // two of four have come
	wantEvents(t, c.Feed(framed(2, transferOf(7, 0, "", false))))
	wantOut(t, c)
	wantEvents(t, c.Feed(framed(2, detachOf(7, true, api.Fault{}))))
	wantOut(t, c)
	// The number of what was forgotten may come again on another link.
	attach(t, c, "m", 0, 3, true)
	c.Credit(0, 0, 1, false)
	wantEvents(t, c.Feed(framed(2, transferOf(3, 0, "t", false))), evDelivery(0, 0, api.Delivery{Tag: "t"}))
}

// P15.12: what is unsettled is gone as soon as we have detached a link: its numbers may come again on another one, and stay there when the peer has detached it, too.
func TestNumbersOfWhatWasDetached(t *testing.T) {
	c := receiving(t, 5)
	attach(t, c, "m", 1, 3, true)
	c.Credit(0, 1, 5, false)
	wantEvents(t, c.Feed(framed(2, transferOf(7, 4, "t", false))), evDelivery(0, 0, api.Delivery{Id: 4, Tag: "t"}))
	wantErrno(t, "Detach", c.Detach(0, 0, true, api.Fault{}), api.OK)
	wantEvents(t, c.Feed(framed(2, transferOf(3, 4, "u", false))), evDelivery(0, 1, api.Delivery{Id: 4, Tag: "u"}))
	wantEvents(t, c.Feed(framed(2, detachOf(7, true, api.Fault{}))))
	wantEvents(t, c.Feed(framed(2, dispositionOf(false, 4, -1, true, accepted))), evState(0, 1, 4, "u", accepted, true))
}

// P15.12: other links of the session stay as they are.
func TestOtherLinksStay(t *testing.T) {
	c := sending(t, 5)
	attach(t, c, "m", 1, 3, false)
	c.Feed(framed(2, linkFlow(sessionFlow(0, 3, maxWord-1, 9), 3, 0, 5, -1, false)))
	c.Send(0, 0, "t", nil, false, api.State{})
	c.Send(0, 1, "t", nil, false, api.State{})
	before := c.Links(0)[1]
	wantErrno(t, "Detach", c.Detach(0, 0, true, api.Fault{}), api.OK)
	wantHandles(t, c, 1)
	if l := c.Links(0)[0]; l != before {
		t.Errorf("%+v, before: %+v", l, before)
	}
	wantEvents(t, c.Feed(framed(2, dispositionOf(true, 0, 9, true, accepted))), evState(0, 1, 1, "t", accepted, true))
}

// P15.12: the peer's Detach of a handle that is no link's: the session fails.
func TestPeersDetachOfNoLink(t *testing.T) {
	for _, handle := range []int{0, 1, 8, 63, 64, maxWord} {
		c := linked(t, true) // the peer's handle is 7
		wantEvents(t, c.Feed(framed(2, detachOf(handle, true, faultOf("x")))), evEnd(0, faultOf("unattached-handle")))
		wantOut(t, c, framed(0, endOf(faultOf("unattached-handle"))))
		wantNoSession(t, c, 0)
	}
	// One of ours that it has not answered has no handle of the peer's.
	c := begun(t, up(t, true))
	wantAttach(t, c, attachOf("l", 0, true), 0)
	wantEvents(t, c.Feed(framed(2, detachOf(0, true, api.Fault{}))), evEnd(0, faultOf("unattached-handle")))
}

// P15.12: the peer's Detach of a whole link is answered, closed as the peer's, without a fault.
func TestPeersDetach(t *testing.T) {
	for _, closed := range []bool{false, true} {
		for _, f := range []api.Fault{{}, faultOf("x"), {Cond: "not-found", Text: "why", Info: nested(4)}} {
			for _, again := range []func() *conn.Conn{func() *conn.Conn { return receiving(t, 2) }, func() *conn.Conn { return sending(t, 2) }} {
				c := again()
				c.Send(0, 0, "t", nil, false, api.State{})
				c.Out()
				p := detachOf(7, closed, f)
				e := evOf(api.EvDetach, 0, 0, p)
				e.Fault = f
				wantEvents(t, c.Feed(framed(2, p)), e)
				wantOut(t, c, framed(0, detachOf(0, closed, api.Fault{})))
				wantHandles(t, c)
				wantNoLink(t, c, 0)
				wantEvents(t, c.Feed(framed(2, dispositionOf(true, 0, 9, true, accepted))))
				// Both handles are free.
				attach(t, c, "l", 0, 7, true)
			}
			// One that we have not answered.
			c := begun(t, up(t, true))
			c.Feed(framed(2, attachOf("l", 9, true)))
			p := detachOf(9, closed, f)
			e := evOf(api.EvDetach, 0, -1, p)
			e.Fault = f
			wantEvents(t, c.Feed(framed(2, p)), e)
			wantOut(t, c)
			wantAttach(t, c, attachOf("l", 0, false), 0)
			wantHandles(t, c)
			q := attachOf("l", 9, true)
			wantEvents(t, c.Feed(framed(2, q)), evOf(api.EvAttach, 0, 0, q))
		}
	}
}

// blocked is an end with two links on which we send, "l" (0, 7) and "m" (1, 3): the window is used up, of "l" a transfer waits, and behind it, of "m", a Disposition.
func blocked(t *testing.T) *conn.Conn {
	t.Helper()
	c := sending(t, 9)
	attach(t, c, "m", 1, 3, false)
	c.Feed(framed(2, linkFlow(sessionFlow(0, 3, maxWord-1, 9), 3, 0, 9, -1, false)))
	for _, x := range []struct {
		handle int
		tag    string
	}{{1, "a"}, {0, "b"}, {0, "c"}, {0, "d"}} {
		_, e := c.Send(0, x.handle, x.tag, nil, false, api.State{})
		wantErrno(t, "Send", e, api.OK)
	}
	wantOut(t, c, framed(0, transferOf(1, 0, "a", false)), framed(0, transferOf(0, 1, "b", false)), framed(0, transferOf(0, 2, "c", false)))
	wantErrno(t, "Settle", c.Settle(0, 1, "a", accepted, false), api.OK)
	wantOut(t, c)
	return c
}

// P15.12: what stood behind what is gone with a link waits on, until something more comes to wait, or a Flow comes.
func TestWhatWaitsBehindADetach(t *testing.T) {
	disposition := framed(0, dispositionOf(false, 0, -1, false, accepted))
	detaches := []func(c *conn.Conn){
		func(c *conn.Conn) {
			wantErrno(t, "Detach", c.Detach(0, 0, true, api.Fault{}), api.OK)
			wantOut(t, c, framed(0, detachOf(0, true, api.Fault{})))
		},
		func(c *conn.Conn) {
			c.Feed(framed(2, detachOf(7, true, api.Fault{})))
			wantOut(t, c, framed(0, detachOf(0, true, api.Fault{})))
		},
		func(c *conn.Conn) { // both, one behind the other
			c.Detach(0, 0, true, api.Fault{})
			c.Feed(framed(2, detachOf(7, true, api.Fault{})))
			c.Out()
		},
	}
	for _, detach := range detaches {
		c := blocked(t)
		detach(c)
		wantEvents(t, c.Tick(5))
		c.Feed(slices.Concat(alive, framed(2, dispositionOf(true, 50, -1, true, accepted))))
		wantOut(t, c)
		c.Feed(framed(2, sessionFlow(3, 0, maxWord-1, 9))) // without any room
		wantOut(t, c, disposition)

		c = blocked(t)
		detach(c)
		_, e := c.Send(0, 1, "e", nil, true, api.State{})
		wantErrno(t, "Send", e, api.OK)
		wantOut(t, c, disposition)
		c.Feed(framed(2, sessionFlow(3, 1, maxWord-1, 9)))
		wantOut(t, c, framed(0, transferOf(1, 4, "e", true)))
	}
	// What waits for the other link stays, also if it stands ahead.
	c := blocked(t)
	wantErrno(t, "Detach", c.Detach(0, 1, true, api.Fault{}), api.OK)
	c.Out()
	c.Feed(framed(2, sessionFlow(3, 9, maxWord-1, 9)))
	wantOut(t, c, framed(0, transferOf(0, 3, "d", false)))
}
