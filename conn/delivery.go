package conn

import (
	"longshore/api"
	"longshore/carve"
	"longshore/owned"
	"longshore/perform"
)

// Send sends a delivery: its number.
func (c *Conn) Send(channel, handle int, tag string, data []byte, settled bool, s api.State) (int, api.Errno) {
	d, l, e := c.lineAt(channel, handle)
	if e != api.OK {
		return 0, e
	}
	if tag == "" || len(tag) > api.MaxTag {
		return 0, api.ErrTag
	}
	if len(data) > l.peer.mostMessage() {
		return 0, api.ErrLong
	}
	frames, e := carve.Split(d.transfer(l, tag, settled, s), channel, data, c.most)
	if e != api.OK {
		return 0, e
	}
	if e := l.link.Send(tag, settled); e != api.OK {
		return 0, e
	}
	// The handle is in use, and that many deliveries that a number could come again are not promised.
	id, _ := d.numbers.Deliver(handle, tag, settled)
	l.note(tag, id, settled)
	for _, b := range frames {
		d.waits = append(d.waits, waiting{handle: handle, transfer: true, frame: b})
	}
	c.writeWaiting(d)
	return id, api.OK
}

// transfer is the first transfer of the next delivery.
func (d *dialog) transfer(l *line, tag string, settled bool, s api.State) api.Perform {
	p := perform.Blank(api.KTransfer)
	p.Handle, p.DeliveryId, p.Format = l.handle, d.numbers.State().NextDelivery, 0
	p.HasTag, p.Tag = true, tag
	p.HasSettled, p.Settled = true, settled
	p.State = s
	return p
}

// note keeps the number of a delivery, unless it is settled.
func (l *line) note(tag string, id int, settled bool) {
	if !settled {
		l.numbers[tag] = id
	}
}

// forget is where a delivery is settled.
func (d *dialog) forget(l *line, tag string) {
	d.numbers.Forget(!l.receiver, l.numbers[tag])
	delete(l.numbers, tag)
}

// hearTransfer takes the peer's Transfer.
func (c *Conn) hearTransfer(d *dialog, s said) {
	if d.numbers.Got() != api.OK {
		c.failDialog(d, "window-violation")
		return
	}
	l, is := d.theirs[s.perform.Handle]
	switch {
	case !is:
		c.failDialog(d, unattachedHandle)
	case l.detached:
	case l.link == nil || !l.receiver:
		c.failDialog(d, notAllowed)
	case c.arrives(d, l, s.perform):
		c.joinPiece(d, l, s)
	}
	if !d.ended {
		c.widen(d)
	}
}

// arrives takes a delivery's first transfer, if it is one; it tells whether the delivery is to be taken, or the link or the session has failed.
func (c *Conn) arrives(d *dialog, l *line, p api.Perform) bool {
	if unfinished, _ := l.joiner.Held(); unfinished {
		return true
	}
	if p.DeliveryId == none || p.Tag == "" {
		c.failLine(d, l, notAllowed)
		return false
	}
	switch l.link.Got(p.Tag, p.Settled) {
	case api.OK:
	case api.ErrCredit:
		c.failLine(d, l, "transfer-limit-exceeded")
		return false
	default:
		c.failLine(d, l, notAllowed)
		return false
	}
	if d.numbers.Arrive(p.DeliveryId, l.handle, p.Tag, p.Settled) != api.OK {
		c.failDialog(d, notAllowed)
		return false
	}
	l.tag = p.Tag
	l.note(p.Tag, p.DeliveryId, p.Settled)
	return true
}

// joinPiece lays a transfer to what has come of its delivery.
func (c *Conn) joinPiece(d *dialog, l *line, s said) {
	delivery, whole, e := l.joiner.On(s.perform, s.payload)
	switch e {
	case api.OK:
	case api.ErrTooMuch:
		c.failLine(d, l, "message-size-exceeded")
		return
	default:
		c.failLine(d, l, notAllowed)
		return
	}
	if whole {
		c.tell(api.Event{Kind: api.EvDelivery, Channel: d.channel, Handle: l.handle, Delivery: delivery})
	}
	if s.perform.Aborted || whole && delivery.Settled {
		d.settleArrived(l)
	}
}

// settleArrived settles the delivery that has ended just now, if it is not settled.
func (d *dialog) settleArrived(l *line) {
	if _, unsettled := l.numbers[l.tag]; unsettled {
		// As what the peer says: a receiver that settles second may not settle first, but its sender may.
		l.link.Peer(l.tag, api.State{}, true)
		d.forget(l, l.tag)
	}
}

// widen opens the window again, when half of it is used up.
func (c *Conn) widen(d *dialog) {
	if d.numbers.State().InWin <= c.config.Window/2 {
		d.numbers.Widen(c.config.Window)
		c.say(d.channel, d.numbers.Fields())
	}
}

// Settle says what became of a delivery that came, or that was sent.
func (c *Conn) Settle(channel, handle int, tag string, s api.State, settled bool) api.Errno {
	d, l, e := c.lineAt(channel, handle)
	if e != api.OK {
		return e
	}
	p := perform.Blank(api.KDisposition)
	p.Receiver, p.First, p.Settled = l.receiver, l.numbers[tag], settled
	if s.Kind != 0 {
		p.State = s
	}
	b, e := c.framed(channel, p)
	if e != api.OK {
		return e
	}
	if e := l.link.Own(tag, p.State, settled); e != api.OK {
		return e
	}
	if settled {
		d.forget(l, tag)
	}
	c.lay(d, l, waiting{handle: handle, frame: b})
	return api.OK
}

// hearDisposition takes the peer's Disposition.
func (c *Conn) hearDisposition(d *dialog, s said) {
	p := s.perform
	last := p.Last
	if last == none {
		last = p.First
	}
	for _, pending := range d.numbers.Range(p.Receiver, p.First, last) {
		// What is not there any more is of a link that has failed meanwhile.
		if l := d.ours[pending.Handle]; l.isLive() {
			c.hearState(d, l, pending, p)
		}
	}
}

// hearState takes what a Disposition says of one delivery.
func (c *Conn) hearState(d *dialog, l *line, pending api.Pending, p api.Perform) {
	if _, e := l.link.Peer(pending.Tag, p.State, p.Settled); e != api.OK {
		c.failLine(d, l, notAllowed)
		return
	}
	if p.Settled {
		d.forget(l, pending.Tag)
	}
	c.tell(api.Event{
		Kind:     api.EvState,
		Channel:  d.channel,
		Handle:   l.handle,
		Delivery: api.Delivery{Id: pending.Id, Tag: pending.Tag},
		State:    owned.State(p.State),
		Settled:  p.Settled,
	})
}
