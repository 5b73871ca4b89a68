package conn

import "longshore/api"

// waiting is something that waits to be written for a link: a frame, or a Flow of which the session's fields are not known yet.
type waiting struct {
	handle   int // ours
	transfer bool
	frame    []byte
	flow     *api.Perform
}

// lay writes something of a link: on a link on which we send behind what waits, as it may speak of that.
func (c *Conn) lay(d *dialog, l *line, w waiting) {
	if l.receiver {
		c.writeOne(d, w)
		return
	}
	d.waits = append(d.waits, w)
	c.writeWaiting(d)
}

// writeWaiting writes what waits, until a transfer has no room.
func (c *Conn) writeWaiting(d *dialog) {
written:
	for len(d.waits) > 0 {
		next := d.waits[0]
		switch {
		case !next.transfer:
		case d.numbers.Room() == 0:
			break written
		default:
			d.numbers.Sent()
		}
		d.waits[0] = waiting{} // what was written is not kept
		d.waits = d.waits[1:]
		c.writeOne(d, next)
	}
}

func (c *Conn) writeOne(d *dialog, w waiting) {
	if w.flow == nil {
		c.write(w.frame)
		return
	}
	p, now := *w.flow, d.numbers.Fields()
	p.NextIn, p.InWin, p.NextOut, p.OutWin = now.NextIn, now.InWin, now.NextOut, now.OutWin
	c.say(d.channel, p)
}

// layFlow writes a link's Flow.
func (c *Conn) layFlow(d *dialog, l *line) {
	p := l.link.Fields(l.handle)
	c.lay(d, l, waiting{handle: l.handle, flow: &p})
}

// Credit gives the peer credit on a link.
func (c *Conn) Credit(channel, handle, credit int, drain bool) api.Errno {
	d, l, e := c.lineAt(channel, handle)
	if e != api.OK {
		return e
	}
	if e := l.link.Grant(credit, drain); e != api.OK {
		return e
	}
	c.layFlow(d, l)
	return api.OK
}

// Drained gives up the credit that is to be drained: whether there was any.
func (c *Conn) Drained(channel, handle int) (bool, api.Errno) {
	d, l, e := c.lineAt(channel, handle)
	if e != api.OK {
		return false, e
	}
	drained := l.link.Drained()
	if drained {
		c.layFlow(d, l)
	}
	return drained, api.OK
}

// hearFlow takes the peer's Flow.
func (c *Conn) hearFlow(d *dialog, s said) {
	p := s.perform
	if d.numbers.Flow(p) != api.OK {
		c.failDialog(d, "invalid-field")
		return
	}
	l, is := d.theirs[p.Handle]
	if p.Handle != none && !is {
		c.failDialog(d, unattachedHandle)
		return
	}
	live := is && l.isLive()
	if live {
		l.link.Flow(p)
		c.tell(api.Event{Kind: api.EvFlow, Channel: d.channel, Handle: l.handle, Perform: p})
	}
	switch {
	case p.Echo && live:
		c.layFlow(d, l)
	case p.Echo:
		c.say(d.channel, d.numbers.Fields())
	}
	c.writeWaiting(d)
}
