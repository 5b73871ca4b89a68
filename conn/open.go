package conn

import (
	"longshore/api"
	"longshore/frame"
)

// Open, Close: of the connection.
func (c *Conn) Open() api.Errno {
	switch {
	case c.over:
		return api.ErrClosed
	case c.asked:
		return api.ErrState
	}
	c.asked = true
	switch {
	case c.headed:
		c.sayOpen()
	case !c.config.Server && c.config.Guarded:
		c.writeHeader(api.ProtoGuard)
	case !c.config.Server:
		c.writeHeader(api.ProtoMain)
		c.sayOpen()
	}
	return api.OK
}

func (c *Conn) Close(f api.Fault) api.Errno {
	switch {
	case c.over || c.closed:
		return api.ErrClosed
	case !c.opened:
		return api.ErrState
	}
	b, e := c.framed(0, faulted(api.KClose, f))
	if e != api.OK {
		return e
	}
	c.write(b)
	c.closed = true
	return api.OK
}

// hearOpen takes the peer's Open.
func (c *Conn) hearOpen(s said) {
	p := s.perform
	c.come = true
	c.most = min(p.MaxFrame, api.MaxFrame)
	c.channelMax = min(p.ChannelMax, c.config.ChannelMax)
	c.idle = p.Idle
	c.tell(api.Event{Kind: api.EvOpen, Perform: p})
}

// hearClose takes the peer's Close.
func (c *Conn) hearClose(s said) {
	c.sayClose(api.Fault{})
	c.end(s.perform.Fault)
}

// Tick says what time it is: what happened.
func (c *Conn) Tick(now int) []api.Event {
	c.time = max(c.time, min(now, api.MaxTime))
	switch {
	case c.over || !c.opened:
	case c.config.Idle > 0 && c.time >= c.heard+2*c.config.Idle:
		c.fail("idle-timeout")
	case c.idle > 0 && c.time >= c.said+c.idle/2:
		c.sayAlive()
	}
	return c.told()
}

// sayAlive writes a frame that says nothing but that we live.
func (c *Conn) sayAlive() {
	b, _ := frame.Seal(api.Frame{Type: api.FrameMain})
	c.write(b)
}
