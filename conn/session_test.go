package conn_test

import (
	"slices"
	"testing"

	"longshore/api"
	"longshore/conn"
)

// wide is an end that is up and whose sessions are bound by these ChannelMax alone.
func wide(t *testing.T, own, peer int) *conn.Conn {
	t.Helper()
	p := peerOpen()
	p.ChannelMax = peer
	return upWith(t, configWith(true, func(c *api.ConnConfig) { c.ChannelMax = own }), p)
}

func wantBegin(t *testing.T, c *conn.Conn, want int) {
	t.Helper()
	channel, e := c.Begin()
	wantErrno(t, "Begin", e, api.OK)
	if channel != want {
		t.Fatalf("Begin: %d, want %d", channel, want)
	}
	wantOut(t, c, framed(want, ownBegin(-1, 4)))
}

func wantChannels(t *testing.T, c *conn.Conn, want ...int) {
	t.Helper()
	if got := c.Channels(); !slices.Equal(got, want) {
		t.Fatalf("Channels: %v, want %v", got, want)
	}
}

func beginError(c *conn.Conn) api.Errno {
	channel, e := c.Begin()
	if e != api.OK && channel != 0 {
		return -1
	}
	return e
}

// P15.7: the errors of Begin, in their order.
func TestBeginRefused(t *testing.T) {
	closed := func(again func() *conn.Conn) func() *conn.Conn {
		return func() *conn.Conn {
			c := again()
			wantErrno(t, "Close", c.Close(api.Fault{}), api.OK)
			return c
		}
	}
	over := func() *conn.Conn {
		c := up(t, true)
		c.Feed(framed(0, closeOf(api.Fault{})))
		return c
	}
	full := func() *conn.Conn {
		c := up(t, false)
		for range 4 {
			c.Begin()
		}
		return c
	}
	for _, again := range []func() *conn.Conn{over, closed(func() *conn.Conn { return up(t, true) }), closed(func() *conn.Conn { return opened(t, false) }), closed(full)} {
		wantRefused(t, "Begin", again, api.ErrClosed, beginError)
	}
	unopened := func() *conn.Conn {
		c := made(t, config(true))
		c.Feed(slices.Concat(mainHeader, framed(0, peerOpen())))
		return c
	}
	for _, again := range []func() *conn.Conn{func() *conn.Conn { return made(t, config(false)) }, func() *conn.Conn { return opened(t, false) }, func() *conn.Conn { return opened(t, true) }, unopened} {
		wantRefused(t, "Begin", again, api.ErrState, beginError)
	}
	wantRefused(t, "Begin", full, api.ErrMany, beginError)
}

// P15.7: as many sessions as the lesser ChannelMax lets there be, and at most MaxSess; each at the least free channel.
func TestBegin(t *testing.T) {
	for _, x := range []struct{ own, peer, many int }{{0, 0, 1}, {0, 65535, 1}, {65535, 0, 1}, {2, 5, 3}, {5, 2, 3}, {14, 65535, 15}, {15, 65535, 16}, {16, 65535, 16}, {65535, 65535, 16}, {65535, 15, 16}} {
		c := wide(t, x.own, x.peer)
		for channel := range x.many {
			wantBegin(t, c, channel)
		}
		_, e := c.Begin()
		wantErrno(t, "Begin", e, api.ErrMany)
		wantOut(t, c)
		if got := c.Channels(); len(got) != x.many || got[x.many-1] != x.many-1 {
			t.Errorf("Channels: %v", got)
		}
	}
}

// P15.7: the Begin says the window of the configuration.
func TestBeginSaysTheWindow(t *testing.T) {
	for _, window := range []int{1, 2, 65535} {
		c := upWith(t, configWith(true, func(c *api.ConnConfig) { c.Window = window }), peerOpen())
		c.Begin()
		wantOut(t, c, framed(0, ownBegin(-1, window)))
		c.Feed(framed(1, peerBegin(-1)))
		wantOut(t, c, framed(1, ownBegin(1, window)))
	}
}

// P15.7, P15.9: a channel is free again when its session is gone, not ahead of that; sessions that were ended by us count.
func TestChannelsFreeAgain(t *testing.T) {
	c := wide(t, 2, 2)
	for channel := range 3 {
		wantBegin(t, c, channel)
		c.Feed(framed(2-channel, peerBegin(channel)))
	}
	wantErrno(t, "End", c.End(1, api.Fault{}), api.OK)
	wantErrno(t, "End", c.End(0, api.Fault{}), api.OK)
	c.Out()
	wantChannels(t, c, 2)
	_, e := c.Begin()
	wantErrno(t, "Begin", e, api.ErrMany)
	wantEvents(t, c.Feed(framed(1, endOf(api.Fault{}))))
	wantBegin(t, c, 1)
	wantChannels(t, c, 1, 2)
	wantEvents(t, c.Feed(framed(2, endOf(api.Fault{}))))
	wantEvents(t, c.Feed(framed(2, peerBegin(-1))), evOf(api.EvBegin, 0, 0, peerBegin(-1)))
	wantOut(t, c, framed(0, ownBegin(2, 4)))
	wantChannels(t, c, 0, 1, 2)
	// The peer's End of one that was not ended by us frees its channel at once.
	wantEvents(t, c.Feed(framed(0, endOf(api.Fault{}))), evEnd(2, api.Fault{}))
	c.Out()
	wantChannels(t, c, 0, 1)
	wantBegin(t, c, 2)
}

// P15.8: the peer's Begin without Remote: a session at the least free channel, which is answered.
func TestPeersBegin(t *testing.T) {
	for _, server := range []bool{false, true} {
		c := up(t, server)
		for channel, x := range []int{3, 0, 2, 1} {
			p := peerBegin(-1)
			p.NextOut, p.Props = channel, nested(3)
			wantEvents(t, c.Feed(framed(x, p)), evOf(api.EvBegin, channel, 0, p))
			wantOut(t, c, framed(channel, ownBegin(x, 4)))
		}
		wantChannels(t, c, 0, 1, 2, 3)
		_, e := c.Begin()
		wantErrno(t, "Begin", e, api.ErrMany)
	}
}

// P15.8: each failure of the peer's Begin.
func TestPeersBeginFails(t *testing.T) {
	// The channel is a session's already; of one that the peer began, of one that it has answered, of one that was ended by us.
	for _, p := range []api.Perform{peerBegin(-1), peerBegin(0), peerBegin(1), peerBegin(3)} {
		c := begun(t, up(t, true))
		wantFailed(t, c, c.Feed(framed(2, p)), "illegal-state")

		c = begun(t, up(t, true))
		c.Begin()
		c.Feed(framed(3, peerBegin(1)))
		c.Out()
		wantFailed(t, c, c.Feed(framed(3, p)), "illegal-state")

		c = begun(t, up(t, true))
		c.End(0, api.Fault{})
		c.Out()
		wantFailed(t, c, c.Feed(framed(2, p)), "illegal-state")
	}
	// Above c.ChannelMax, whatever the peer's is, and whether it answers or not.
	for _, x := range []struct{ own, peer, channel int }{{3, 3, 4}, {3, 65535, 4}, {3, 0, 4}, {0, 65535, 1}, {3, 65535, 65535}} {
		for _, remote := range []int{-1, 0, 9} {
			c := wide(t, x.own, x.peer)
			c.Begin()
			c.Out()
			wantFailed(t, c, c.Feed(framed(x.channel, peerBegin(remote))), "not-allowed")
		}
	}
	// One of its own that is above its own ChannelMax is not looked at.
	c := wide(t, 3, 1)
	wantEvents(t, c.Feed(framed(3, peerBegin(-1))), evOf(api.EvBegin, 0, 0, peerBegin(-1)))
	// As many as there may be: also such as were ended by us.
	for _, ended := range []bool{false, true} {
		c = wide(t, 65535, 65535)
		for channel := range 16 {
			wantBegin(t, c, channel)
		}
		if ended {
			c.End(5, api.Fault{})
		}
		c.Out()
		wantFailed(t, c, c.Feed(framed(7, peerBegin(-1))), "resource-limit-exceeded")
		c = wide(t, 5, 1)
		wantBegin(t, c, 0)
		wantBegin(t, c, 1)
		wantFailed(t, c, c.Feed(framed(0, peerBegin(-1))), "resource-limit-exceeded")
	}
}

// P15.8: an answer is one of a session that we began and that has not been answered.
func TestPeersAnswer(t *testing.T) {
	for _, remote := range []int{1, 2, 15, 65535} {
		c := up(t, true)
		c.Begin()
		c.Out()
		wantFailed(t, c, c.Feed(framed(1, peerBegin(remote))), "illegal-state")
	}
	// One that the peer began.
	c := begun(t, up(t, true))
	wantFailed(t, c, c.Feed(framed(1, peerBegin(0))), "illegal-state")
	// One that was answered.
	c = up(t, true)
	wantBegin(t, c, 0)
	wantBegin(t, c, 1)
	wantEvents(t, c.Feed(framed(3, peerBegin(1))), evOf(api.EvBegin, 1, 0, peerBegin(1)))
	wantOut(t, c)
	_, e := c.Attach(0, attachOf("l", 0, false))
	wantErrno(t, "Attach", e, api.ErrNoSess)
	_, e = c.Attach(1, attachOf("l", 0, false))
	wantErrno(t, "Attach", e, api.OK)
	c.Out()
	wantEvents(t, c.Feed(framed(0, peerBegin(0))), evOf(api.EvBegin, 0, 0, peerBegin(0)))
	wantFailed(t, c, c.Feed(framed(1, peerBegin(1))), "illegal-state")
	// One that is gone.
	c = begun(t, up(t, true))
	c.Feed(framed(2, endOf(api.Fault{})))
	c.Out()
	wantFailed(t, c, c.Feed(framed(1, peerBegin(0))), "illegal-state")
}

// P15.8, P15.9: a session that was ended by us ahead of the peer's answer: the answer brings nothing about, and its End ends it.
func TestAnswerOfWhatWasEnded(t *testing.T) {
	c := up(t, true)
	wantBegin(t, c, 0)
	wantErrno(t, "End", c.End(0, faultOf("x")), api.OK)
	wantOut(t, c, framed(0, endOf(faultOf("x"))))
	wantChannels(t, c)
	wantNoSession(t, c, 0)
	wantBegin(t, c, 1)
	wantEvents(t, c.Feed(framed(3, peerBegin(0))))
	wantEvents(t, c.Feed(framed(3, attachOf("l", 9, false))))
	wantNoSession(t, c, 0)
	wantEvents(t, c.Feed(framed(3, endOf(faultOf("y")))))
	wantOut(t, c)
	wantBegin(t, c, 0)
	wantChannels(t, c, 0, 1)
}

// P15.9: the errors of End, in their order.
func TestEndRefused(t *testing.T) {
	again := func() *conn.Conn { return sending(t, 2) }
	bad := api.Fault{Cond: "Not", Text: long(4000)}
	for _, channel := range numbers {
		for _, f := range []api.Fault{{}, bad} {
			wantRefused(t, "End", again, api.ErrNoSess, func(c *conn.Conn) api.Errno { return c.End(channel, f) })
		}
	}
	ended := func() *conn.Conn {
		c := again()
		wantErrno(t, "End", c.End(0, api.Fault{}), api.OK)
		return c
	}
	wantRefused(t, "End", ended, api.ErrNoSess, func(c *conn.Conn) api.Errno { return c.End(0, bad) })
	for _, x := range badFaults() {
		wantRefused(t, "End", again, x.want, func(c *conn.Conn) api.Errno { return c.End(0, x.fault) })
	}
	wantRefused(t, "End", again, api.ErrTerm, func(c *conn.Conn) api.Errno { return c.End(0, bad) })
	for _, x := range []struct {
		size int
		want api.Errno
	}{{700, api.OK}, {701, api.ErrLong}} {
		f := fitting(t, x.size) // an End is as long as a Close
		if x.want == api.OK {
			wantErrno(t, "End", again().End(0, f), api.OK)
			continue
		}
		wantRefused(t, "End", again, x.want, func(c *conn.Conn) api.Errno { return c.End(0, f) })
	}
}

// P15.9: End writes an End; links and what waits are gone; all that comes is passed over till the peer's End, with which the session is gone.
func TestEnd(t *testing.T) {
	for _, f := range append(noFaults(), faultOf("x"), api.Fault{Cond: "x", Text: "why", Info: nested(28)}) {
		c := sending(t, 3)
		_, e := c.Send(0, 0, "t", filled(5000), false, api.State{}) // more than the window takes
		wantErrno(t, "Send", e, api.OK)
		c.Out()
		wantErrno(t, "End", c.End(0, f), api.OK)
		if f.Cond == "" {
			f = api.Fault{}
		}
		wantOut(t, c, framed(0, endOf(f)))
		wantNoSession(t, c, 0)
		wantChannels(t, c)
		for _, p := range allKinds()[2:7] {
			wantEvents(t, c.Feed(framed(2, p)))
		}
		flow := linkFlow(sessionFlow(0, 100, 0, 0), 7, 0, 9, -1, false)
		flow.Echo = true
		wantEvents(t, c.Feed(framed(2, flow)))
		wantEvents(t, c.Feed(framed(2, transferOf(99, 0, "t", true))))
		wantOut(t, c)
		wantEvents(t, c.Feed(framed(2, endOf(faultOf("y")))))
		wantOut(t, c)
		wantFailed(t, c, c.Feed(framed(2, endOf(api.Fault{}))), "not-allowed")
	}
}

// P15.9: the peer's End of a session that was not ended by us.
func TestPeersEnd(t *testing.T) {
	for _, f := range []api.Fault{{}, faultOf("x"), {Cond: "not-found", Text: "why", Info: nested(4)}} {
		for _, again := range []func() *conn.Conn{func() *conn.Conn { return begun(t, up(t, false)) }, func() *conn.Conn { return sending(t, 2) }, func() *conn.Conn { return receiving(t, 2) }} {
			c := again()
			wantEvents(t, c.Feed(framed(2, endOf(f))), evEnd(0, f))
			wantOut(t, c, framed(0, endOf(api.Fault{})))
			wantNoSession(t, c, 0)
			wantChannels(t, c)
			// Its channels, either way, are free.
			wantEvents(t, c.Feed(framed(2, peerBegin(-1))), evOf(api.EvBegin, 0, 0, peerBegin(-1)))
			if len(c.Links(0)) != 0 {
				t.Error("a link of a session that is gone")
			}
		}
	}
}

// P15.9: one session's end is nothing to another one.
func TestOtherSessionsStay(t *testing.T) {
	c := sending(t, 2)
	c.Feed(framed(1, peerBegin(-1)))
	c.Feed(framed(3, peerBegin(-1)))
	wantErrno(t, "End", c.End(1, api.Fault{}), api.OK)
	c.Feed(framed(3, endOf(api.Fault{})))
	wantChannels(t, c, 0)
	c.Out()
	id, e := c.Send(0, 0, "t", []byte("x"), true, api.State{})
	wantErrno(t, "Send", e, api.OK)
	wantOut(t, c, framed(0, transferOf(0, id, "t", true), 'x'))
}

// P15.10: each performative on a channel of the peer's that is no session's, and our channel, which is another one's number, is not meant.
func TestNoSessionsChannel(t *testing.T) {
	for _, p := range allKinds()[2:8] {
		for _, channel := range []int{0, 1, 3, 4, 65535} {
			c := linked(t, true) // its session is the peer's channel 2
			wantFailed(t, c, c.Feed(framed(channel, p)), "not-allowed")
		}
		c := up(t, false)
		wantFailed(t, c, c.Feed(framed(0, p)), "not-allowed")
		// A session that has not been answered has no channel of the peer's.
		c.Begin()
		c = up(t, false)
		c.Begin()
		c.Out()
		wantFailed(t, c, c.Feed(framed(0, p)), "not-allowed")
		// One that is gone has none any more.
		c = begun(t, up(t, true))
		c.Feed(framed(2, endOf(api.Fault{})))
		c.Out()
		wantFailed(t, c, c.Feed(framed(2, p)), "not-allowed")
	}
}
