package conn_test

import (
	"slices"
	"testing"

	"longshore/api"
	"longshore/conn"
)

// P15.5: the errors of Close, in their order, and that nothing has changed behind one.
func TestCloseRefused(t *testing.T) {
	bad := api.Fault{Cond: "Not", Text: long(4000)}
	unopened := func() *conn.Conn { return made(t, config(true)) }
	headed := func() *conn.Conn {
		c := made(t, config(true))
		c.Feed(mainHeader)
		return c
	}
	guards := func() *conn.Conn {
		c := made(t, guardedClient("open", api.User{}))
		c.Open()
		return c
	}
	for _, again := range []func() *conn.Conn{unopened, headed, guards} {
		for _, f := range []api.Fault{{}, faultOf("x"), bad} {
			wantRefused(t, "Close", again, api.ErrState, func(c *conn.Conn) api.Errno { return c.Close(f) })
		}
	}
	for _, again := range []func() *conn.Conn{func() *conn.Conn { return up(t, true) }, func() *conn.Conn { return opened(t, false) }, func() *conn.Conn { return sending(t, 2) }} {
		for _, x := range badFaults() {
			wantRefused(t, "Close", again, x.want, func(c *conn.Conn) api.Errno { return c.Close(x.fault) })
		}
		wantRefused(t, "Close", again, api.ErrTerm, func(c *conn.Conn) api.Errno { return c.Close(bad) }) // ahead of ErrLong
		wantRefused(t, "Close", again, api.ErrLong, func(c *conn.Conn) api.Errno { return c.Close(api.Fault{Cond: "x", Text: long(4096)}) })
		closed := func() *conn.Conn {
			c := again()
			wantErrno(t, "Close", c.Close(faultOf("x")), api.OK)
			return c
		}
		for _, f := range []api.Fault{{}, faultOf("x"), bad} {
			wantRefused(t, "Close", closed, api.ErrClosed, func(c *conn.Conn) api.Errno { return c.Close(f) })
		}
	}
	over := func() *conn.Conn {
		c := up(t, true)
		c.Feed(framed(0, closeOf(api.Fault{})))
		return c
	}
	wantRefused(t, "Close", over, api.ErrClosed, func(c *conn.Conn) api.Errno { return c.Close(bad) })
}

// P15.5: which faults a Close is written with; without a condition with none.
func TestCloseWrites(t *testing.T) {
	full := api.Fault{Cond: "a-1:b", Text: "why", Info: nested(28)}
	for _, server := range []bool{false, true} {
		for _, f := range append(noFaults(), faultOf("x"), faultOf(long(64)), full) {
			c := up(t, server)
			wantErrno(t, "Close", c.Close(f), api.OK)
			if f.Cond == "" {
				f = api.Fault{}
			}
			wantOut(t, c, framed(0, closeOf(f)))
			if over, _ := c.Over(); over || c.Up() {
				t.Errorf("behind Close: %s", seen(c))
			}
			_, e := c.Begin()
			wantErrno(t, "Begin", e, api.ErrClosed)
		}
	}
}

// passedOver are main frames that an end passes over behind its Close: any performative, what is none, a Close on another channel.
func passedOver() [][]byte {
	l := [][]byte{alive, sealed(api.FrameMain, 9, nil), sealed(api.FrameMain, 0, []byte{0x40}), sealed(api.FrameMain, 0, []byte{0xff}), framed(0, closeOf(api.Fault{}), 1), framed(1, closeOf(faultOf("x"))), framed(65535, closeOf(api.Fault{})), framed(0, peerOpen()), framed(1, peerOpen()), sealed(api.FrameMain, 0, []byte("\x00\x53\x18\xc0\x07\x01\x00\x53\x1d\xa3\x01X"))}
	for _, p := range allKinds()[:8] {
		l = append(l, framed(0, p), framed(2, p), framed(7, p))
	}
	return l
}

// P15.5: behind its Close an end passes over all main frames but the peer's Close, whether its Open has come or not.
func TestPassedOverBehindClose(t *testing.T) {
	full := api.Fault{Cond: "not-found", Text: "why", Info: nested(4)}
	for _, again := range []func() *conn.Conn{
		func() *conn.Conn { return up(t, true) }, func() *conn.Conn { return up(t, false) }, func() *conn.Conn { return opened(t, false) }, func() *conn.Conn { return opened(t, true) }, func() *conn.Conn { return linked(t, true) }, func() *conn.Conn { return sending(t, 3) },
	} {
		for _, f := range []api.Fault{{}, faultOf("x"), full} {
			c := again()
			wantErrno(t, "Close", c.Close(faultOf("y")), api.OK)
			c.Out()
			before := seen(c)
			for _, b := range passedOver() {
				wantEvents(t, c.Feed(b))
				if seen(c) != before {
					t.Fatalf("%s, before: %s", seen(c), before)
				}
			}
			wantOut(t, c)
			wantEvents(t, c.Feed(slices.Concat(framed(0, closeOf(f)), alive)), evClose(f))
			wantOut(t, c)
			wantOver(t, c, f)
		}
	}
}

// P15.5: the peer's Open has not come, if it comes behind the Close: its size and its Idle don't count.
func TestOpenBehindClose(t *testing.T) {
	c := opened(t, false)
	wantErrno(t, "Close", c.Close(api.Fault{}), api.OK)
	p := peerOpen()
	p.Idle = 1
	wantEvents(t, c.Feed(framed(0, p)))
	c.Out()
	wantEvents(t, c.Tick(1000))
	wantOut(t, c)
	if c.Up() {
		t.Error("it is up")
	}
}

// P15.5: behind Close headers and faults of the stream are as ever; no second Close is written.
func TestFaultsBehindClose(t *testing.T) {
	again := func() *conn.Conn {
		c := made(t, config(false))
		c.Open()
		wantErrno(t, "Close", c.Close(faultOf("x")), api.OK)
		wantOut(t, c, mainHeader, framed(0, openOf(config(false))), framed(0, closeOf(faultOf("x"))))
		return c
	}
	c := again()
	wantEvents(t, c.Feed(guardHeader), evClose(faultOf("not-allowed")))
	wantOut(t, c)
	wantOver(t, c, faultOf("not-allowed"))
	c = again()
	wantEvents(t, c.Feed([]byte{0}), evClose(faultOf("framing-error")))
	wantOut(t, c)
	wantOver(t, c, faultOf("framing-error"))
	for fault := range faults() {
		c = again()
		wantEvents(t, c.Feed(slices.Concat(mainHeader, framed(0, peerOpen()), []byte(fault))), evClose(faultOf("framing-error")))
		wantOut(t, c)
		wantOver(t, c, faultOf("framing-error"))
	}
}

// P15.5: the peer's Close, if none was written: one without a fault is, ahead of it the Open, if that was not written; it is over with the peer's fault.
func TestPeersClose(t *testing.T) {
	full := api.Fault{Cond: "not-found", Text: "why", Info: nested(4)}
	for _, f := range []api.Fault{{}, faultOf("x"), full} {
		for _, again := range []func() *conn.Conn{func() *conn.Conn { return up(t, true) }, func() *conn.Conn { return up(t, false) }, func() *conn.Conn { return linked(t, true) }, func() *conn.Conn { return sending(t, 3) }} {
			c := again()
			wantEvents(t, c.Feed(slices.Concat(framed(0, closeOf(f)), framed(0, closeOf(f)), []byte{0})), evClose(f))
			wantOut(t, c, framed(0, closeOf(api.Fault{})))
			wantOver(t, c, f)
		}
		c := made(t, config(true))
		c.Feed(slices.Concat(mainHeader, framed(0, peerOpen())))
		c.Out()
		wantEvents(t, c.Feed(framed(0, closeOf(f))), evClose(f))
		wantOut(t, c, framed(0, openOf(config(true))), framed(0, closeOf(api.Fault{})))
		wantOver(t, c, f)
	}
}

// 'Words', P15.5: behind Close, till it is over, its sessions and links are still there.
func TestSessionsBehindClose(t *testing.T) {
	c := sending(t, 2)
	c.Close(api.Fault{})
	c.Out()
	if got := seen(c); len(c.Channels()) != 1 || len(c.Links(0)) != 1 {
		t.Errorf("behind Close: %s", got)
	}
	wantErrno(t, "End", c.End(0, api.Fault{}), api.OK)
	wantOut(t, c, framed(0, endOf(api.Fault{})))
}
