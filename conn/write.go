package conn

import (
	"longshore/api"
	"longshore/frame"
	"longshore/owned"
	"longshore/perform"
)

// Conditions of faults that are found in several places.
const (
	illegalState     = "illegal-state"
	notAllowed       = "not-allowed"
	unattachedHandle = "unattached-handle"
	unauthorized     = "unauthorized"
)

func (c *Conn) write(b []byte) {
	c.out = append(c.out, b...)
	c.said = c.time
}

func (c *Conn) writeHeader(proto int) {
	b, _ := frame.Header(proto)
	c.write(b)
	c.headed = c.headed || proto == api.ProtoMain
}

// writeGuard writes a guard frame. Seal's error is passed over: what the guard says is short.
func (c *Conn) writeGuard(body []byte) {
	b, _ := frame.Seal(api.Frame{Type: api.FrameGuard, Body: body})
	c.write(b)
}

// framed is the frame of a performative, or why it may not be written.
func (c *Conn) framed(channel int, p api.Perform) ([]byte, api.Errno) {
	body, e := perform.Write(p)
	if e != api.OK {
		return nil, e
	}
	b, e := frame.Seal(api.Frame{Type: api.FrameMain, Channel: channel, Body: body})
	if e != api.OK || len(b) > c.most {
		return nil, api.ErrLong
	}
	return b, api.OK
}

// say writes a performative of our own making, which may always be written; ahead of the first one the Open.
func (c *Conn) say(channel int, p api.Perform) {
	c.sayOpen()
	b, _ := c.framed(channel, p)
	c.write(b)
}

func (c *Conn) sayOpen() {
	if c.opened {
		return
	}
	c.opened = true
	c.heard = c.time
	b, _ := c.framed(0, c.ownOpen())
	c.write(b)
}

func (c *Conn) ownOpen() api.Perform {
	p := perform.Blank(api.KOpen)
	p.Id, p.Host, p.MaxFrame, p.ChannelMax = c.config.Id, c.config.Host, c.config.MaxFrame, c.config.ChannelMax
	if c.config.Idle > 0 {
		p.Idle = c.config.Idle
	}
	return p
}

// faulted is a performative of a kind that has a fault, with that fault; without a condition there is none.
func faulted(kind int, f api.Fault) api.Perform {
	p := perform.Blank(kind)
	if f.Cond != "" {
		p.Fault = f
	}
	return p
}

// fail ends the connection because of what the peer did, or did not do.
func (c *Conn) fail(cond string) {
	f := api.Fault{Cond: cond}
	if c.headed {
		c.sayClose(f)
	}
	c.end(f)
}

// sayClose writes a Close, if none was written.
func (c *Conn) sayClose(f api.Fault) {
	if !c.closed {
		c.say(0, faulted(api.KClose, f))
		c.closed = true
	}
}

// end is where it is over.
func (c *Conn) end(f api.Fault) {
	c.over, c.fault = true, owned.Fault(f)
	clear(c.dialogs)
	clear(c.remotes)
	c.tell(api.Event{Kind: api.EvClose, Fault: f})
}
