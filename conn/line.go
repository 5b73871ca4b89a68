package conn

import (
	"slices"

	"longshore/api"
	"longshore/carve"
	"longshore/link"
	"longshore/owned"
	"longshore/perform"
)

// line is a link, as this end has it.
type line struct {
	name     string
	receiver bool // our role
	handle   int  // ours; none, until we have attached
	detached bool // by us
	own      offer
	peer     offer
	link     *link.Link     // nil, until both have attached
	joiner   *carve.Joiner  // of a receiver
	tag      string         // of the delivery that is unfinished, or came last
	numbers  map[string]int // of the deliveries that are not settled, by their tags
}

// offer is what counts of an Attach once both have attached.
type offer struct {
	sndMode, rcvMode, first, maxMessage int
}

func offerOf(p api.Perform) offer {
	return offer{p.SndMode, p.RcvMode, max(0, p.InitialCount), p.MaxMessage}
}

// mostMessage is how many bytes a message may have for the receiver who has said so.
func (o offer) mostMessage() int {
	if o.maxMessage == 0 {
		return api.MaxMessage
	}
	return min(o.maxMessage, api.MaxMessage)
}

func newLine(name string, receiver bool) *line {
	return &line{name: name, receiver: receiver, handle: none, numbers: map[string]int{}}
}

// isLive tells whether both have attached it, and we have not detached it.
func (l *line) isLive() bool { return l.link != nil && !l.detached }

// join makes the link whole.
func (l *line) join() {
	sender, receiver := l.own, l.peer
	if l.receiver {
		sender, receiver = receiver, sender
		l.joiner = carve.New(l.own.mostMessage())
	}
	l.link = link.New(api.LinkConfig{
		Name:         l.name,
		Receiver:     l.receiver,
		SndMode:      sender.sndMode,
		RcvMode:      receiver.rcvMode,
		InitialCount: sender.first,
	})
}

// named is the link of a name in which that is our role, if it is as asked. Of all that are asked for there is one at most.
func named(lines map[int]*line, name string, receiver bool, asked func(l *line) bool) (*line, bool) {
	for _, l := range lines {
		if l.name == name && l.receiver == receiver && asked(l) {
			return l, true
		}
	}
	return nil, false
}

func isAttached(l *line) bool { return !l.detached }

// isAlone tells whether only one of both has attached it.
func isAlone(l *line) bool { return l.link == nil }

// Attach makes a link, or answers the peer's: our handle.
func (c *Conn) Attach(channel int, p api.Perform) (int, api.Errno) {
	d, is := c.dialogAt(channel)
	if !is || !d.answered() {
		return 0, api.ErrNoSess
	}
	if p.Kind != api.KAttach {
		return 0, api.ErrArg
	}
	p.Handle = 0
	if e := perform.Check(p); e != api.OK {
		return 0, e
	}
	if _, twice := named(d.ours, p.Name, p.Receiver, isAttached); twice {
		return 0, api.ErrTwice
	}
	handle, e := d.numbers.Handle()
	if e != api.OK {
		return 0, api.ErrMany
	}
	p.Handle = handle
	b, e := c.framed(channel, p)
	if e != api.OK {
		d.numbers.Free(handle)
		return 0, e
	}
	c.write(b)
	d.attach(p)
	return handle, api.OK
}

// attach takes our Attach: a new link, or the answer to the peer's.
func (d *dialog) attach(p api.Perform) {
	l, answers := named(d.theirs, p.Name, p.Receiver, isAlone)
	if !answers {
		l = newLine(p.Name, p.Receiver)
	}
	l.handle, l.own = p.Handle, offerOf(p)
	d.ours[p.Handle] = l
	if answers {
		l.join()
	}
}

// hearAttach takes the peer's Attach.
func (c *Conn) hearAttach(d *dialog, s said) {
	p := s.perform
	_, inUse := d.theirs[p.Handle]
	_, twice := named(d.theirs, p.Name, !p.Receiver, isAttached)
	switch {
	case p.Handle > api.MaxLinks-1:
		c.failDialog(d, notAllowed)
	case inUse:
		c.failDialog(d, "handle-in-use")
	case twice:
		c.failDialog(d, notAllowed)
	default:
		handle := d.attached(p)
		c.tell(api.Event{Kind: api.EvAttach, Channel: d.channel, Handle: handle, Perform: p})
	}
}

// attached takes the peer's Attach, and tells our handle; none of a link that we may answer.
func (d *dialog) attached(p api.Perform) int {
	l, answered := named(d.ours, p.Name, !p.Receiver, isAlone)
	if !answered {
		l = newLine(p.Name, !p.Receiver)
	}
	l.peer = offerOf(p)
	d.theirs[p.Handle] = l
	if answered {
		l.join()
	}
	return l.handle
}

// lineAt is the session and the link of a handle of ours, if both have attached it and we have not detached it.
func (c *Conn) lineAt(channel, handle int) (*dialog, *line, api.Errno) {
	d, is := c.dialogAt(channel)
	if !is {
		return nil, nil, api.ErrNoSess
	}
	l, is := d.ours[handle]
	switch {
	case !is || l.detached:
		return nil, nil, api.ErrNoLink
	case l.link == nil:
		return nil, nil, api.ErrState
	}
	return d, l, api.OK
}

// Detach ends one.
func (c *Conn) Detach(channel, handle int, closed bool, f api.Fault) api.Errno {
	d, l, e := c.lineAt(channel, handle)
	if e != api.OK {
		return e
	}
	b, e := c.framed(channel, detaching(handle, closed, f))
	if e != api.OK {
		return e
	}
	c.write(b)
	d.detach(l)
	return api.OK
}

func detaching(handle int, closed bool, f api.Fault) api.Perform {
	p := faulted(api.KDetach, f)
	p.Handle, p.Closed = handle, closed
	return p
}

// detach is where we have detached a link; it keeps its handles till the peer has, too.
func (d *dialog) detach(l *line) {
	l.detached = true
	d.clean(l)
}

// clean takes away a link's unsettled deliveries, and what waits to be written for it.
func (d *dialog) clean(l *line) {
	for _, id := range l.numbers {
		d.numbers.Forget(!l.receiver, id)
	}
	clear(l.numbers)
	l.joiner = nil
	d.waits = slices.DeleteFunc(d.waits, func(w waiting) bool { return w.handle == l.handle })
}

// failLine detaches a link because of what the peer did on it.
func (c *Conn) failLine(d *dialog, l *line, cond string) {
	f := api.Fault{Cond: cond}
	c.say(d.channel, detaching(l.handle, true, f))
	d.detach(l)
	c.tell(api.Event{Kind: api.EvDetach, Channel: d.channel, Handle: l.handle, Fault: f})
}

// hearDetach takes the peer's Detach, also of a link that we have detached, or not answered.
func (c *Conn) hearDetach(d *dialog, s said) {
	p := s.perform
	l, is := d.theirs[p.Handle]
	if !is {
		c.failDialog(d, unattachedHandle)
		return
	}
	delete(d.theirs, p.Handle)
	if !l.detached {
		if l.link != nil {
			c.say(d.channel, detaching(l.handle, p.Closed, api.Fault{}))
		}
		c.tell(api.Event{Kind: api.EvDetach, Channel: d.channel, Handle: l.handle, Perform: p, Fault: owned.Fault(p.Fault)})
	}
	if l.link != nil {
		d.clean(l)
		d.numbers.Free(l.handle)
		delete(d.ours, l.handle)
	}
}

// Links tells the links of a channel, by rising handles.
func (c *Conn) Links(channel int) []api.LinkState {
	var l []api.LinkState
	for _, handle := range c.Handles(channel) {
		l = append(l, c.dialogs[channel].ours[handle].link.See())
	}
	return l
}

// Handles tells their handles, in the same order.
func (c *Conn) Handles(channel int) []int {
	d, is := c.dialogAt(channel)
	if !is {
		return nil
	}
	var handles []int
	for handle, l := range d.ours {
		if l.isLive() {
			handles = append(handles, handle)
		}
	}
	slices.Sort(handles)
	return handles
}
