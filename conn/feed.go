package conn

import (
	"longshore/api"
	"longshore/perform"
)

// Feed takes the peer's bytes: what happened.
func (c *Conn) Feed(chunk []byte) []api.Event {
	if c.over || len(chunk) == 0 {
		return nil
	}
	c.heard = c.time
	if !c.config.Server && !c.asked {
		c.end(api.Fault{Cond: illegalState})
		return c.told()
	}
	for item := range c.items.All(chunk) {
		c.take(item)
		if c.over {
			return c.told()
		}
	}
	if c.items.State().Err != api.OK {
		c.fail("framing-error")
	}
	return c.told()
}

func (c *Conn) take(item api.Item) {
	switch {
	case item.Kind == api.ItemProto:
		c.takeHeader(item.Proto)
	case item.Frame.Type == api.FrameGuard:
		c.takeGuard(item.Frame.Body)
	default:
		c.takeMain(item.Frame)
	}
}

func (c *Conn) takeHeader(proto int) {
	awaited := c.awaited()
	if c.config.Server {
		c.writeHeader(awaited)
	}
	switch {
	case proto != awaited:
		c.end(api.Fault{Cond: notAllowed})
	case !c.config.Server:
	case proto == api.ProtoGuard:
		c.writeGuard(c.gate.server.Hello())
	case c.asked:
		c.sayOpen()
	}
}

// awaited is the header that must come.
func (c *Conn) awaited() int {
	if c.config.Guarded {
		if _, in, _ := c.gate.done(); !in {
			return api.ProtoGuard
		}
	}
	return api.ProtoMain
}

func (c *Conn) takeGuard(body []byte) {
	answer, e := c.gate.on(body)
	if e != api.OK {
		c.end(api.Fault{Cond: unauthorized})
		return
	}
	if len(answer) > 0 {
		c.writeGuard(answer)
	}
	switch done, in, who := c.gate.done(); {
	case !done:
	case !in:
		c.end(api.Fault{Cond: unauthorized})
	default:
		c.comeIn(who)
	}
}

// comeIn goes on behind the guard.
func (c *Conn) comeIn(who string) {
	c.items.Expect()
	if c.config.Server {
		c.tell(api.Event{Kind: api.EvUser, User: who})
		return
	}
	c.writeHeader(api.ProtoMain)
	c.sayOpen()
}

// said is what the peer says in a main frame, on a channel of its own.
type said struct {
	channel int
	perform api.Perform
	payload []byte
}

func (c *Conn) takeMain(f api.Frame) {
	if len(f.Body) == 0 {
		return
	}
	p, at, e := perform.Read(f.Body)
	s := said{f.Channel, p, f.Body[at:]}
	switch {
	case c.closed:
		if p.Kind == api.KClose && f.Channel == 0 {
			c.hearClose(s)
		}
	case e != api.OK:
		c.fail("decode-error")
	case c.isOutOfTurn(s):
		c.fail(illegalState)
	default:
		c.hear(s)
	}
}

// isOutOfTurn tells whether it is another thing than an Open ahead of the peer's Open, or an Open behind it, or stands on a channel on which it can't be said.
func (c *Conn) isOutOfTurn(s said) bool {
	opens, closes := s.perform.Kind == api.KOpen, s.perform.Kind == api.KClose
	return opens == c.come || s.channel != 0 && (opens || closes)
}

// deed is what is done when the peer says a performative of a kind.
type deed struct {
	kind int
	do   func(c *Conn, s said)
}

func deeds() []deed {
	return []deed{
		{api.KOpen, (*Conn).hearOpen},
		{api.KBegin, (*Conn).hearBegin},
		{api.KAttach, within((*Conn).hearAttach)},
		{api.KFlow, within((*Conn).hearFlow)},
		{api.KTransfer, within((*Conn).hearTransfer)},
		{api.KDisposition, within((*Conn).hearDisposition)},
		{api.KDetach, within((*Conn).hearDetach)},
		{api.KEnd, (*Conn).hearEnd},
		{api.KClose, (*Conn).hearClose},
	}
}

func (c *Conn) hear(s said) {
	for _, d := range deeds() {
		if d.kind == s.perform.Kind {
			d.do(c, s)
			return
		}
	}
}

// within is what is done in the session of the channel; for one that we have ended nothing is.
func within(do func(c *Conn, d *dialog, s said)) func(c *Conn, s said) {
	return func(c *Conn, s said) {
		if d, is := c.dialogOf(s.channel); is && !d.ended {
			do(c, d, s)
		}
	}
}

// dialogOf is the session of a channel of the peer's; where there is none the connection fails.
func (c *Conn) dialogOf(remote int) (*dialog, bool) {
	d, is := c.remotes[remote]
	if !is {
		c.fail(notAllowed)
	}
	return d, is
}
