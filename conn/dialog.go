package conn

import (
	"longshore/api"
	"longshore/perform"
	"longshore/session"
)

// dialog is a session, as this end has it.
type dialog struct {
	channel int
	numbers *session.Session
	ended   bool          // by us
	ours    map[int]*line // links by our handles
	theirs  map[int]*line // links by the peer's handles
	waits   []waiting     // what waits to be written
}

// answered tells whether both have begun it.
func (d *dialog) answered() bool { return d.numbers.State().Peer }

// Begin, End: of a session; our channel.
func (c *Conn) Begin() (int, api.Errno) {
	switch {
	case c.over || c.closed:
		return 0, api.ErrClosed
	case !c.Up():
		return 0, api.ErrState
	}
	channel, is := c.freeChannel()
	if !is {
		return 0, api.ErrMany
	}
	c.begin(channel, none)
	return channel, api.OK
}

// freeChannel is the least channel that no session has. As it is always the least one, MaxSess sessions have all below MaxSess.
func (c *Conn) freeChannel() (int, bool) {
	for channel := 0; channel < api.MaxSess && channel <= c.channelMax; channel++ {
		if _, inUse := c.dialogs[channel]; !inUse {
			return channel, true
		}
	}
	return 0, false
}

// begin begins a session, or answers the one of that channel of the peer's.
func (c *Conn) begin(channel, remote int) *dialog {
	p := perform.Blank(api.KBegin)
	p.Remote, p.InWin, p.OutWin, p.HandleMax = remote, c.config.Window, api.MaxWord, api.MaxLinks-1
	c.say(channel, p)
	d := &dialog{channel: channel, numbers: session.New(p), ours: map[int]*line{}, theirs: map[int]*line{}}
	c.dialogs[channel] = d
	return d
}

// hearBegin takes the peer's Begin.
func (c *Conn) hearBegin(s said) {
	_, inUse := c.remotes[s.channel]
	switch {
	case inUse:
		c.fail(illegalState)
	case s.channel > c.config.ChannelMax:
		c.fail(notAllowed)
	case s.perform.Remote == none:
		c.answerBegin(s)
	default:
		c.hearAnswer(s)
	}
}

func (c *Conn) answerBegin(s said) {
	channel, is := c.freeChannel()
	if !is {
		c.fail("resource-limit-exceeded")
		return
	}
	c.join(c.begin(channel, s.channel), s)
}

// hearAnswer takes a Begin that answers ours.
func (c *Conn) hearAnswer(s said) {
	d, is := c.dialogs[s.perform.Remote]
	if !is || d.answered() {
		c.fail(illegalState)
		return
	}
	c.join(d, s)
}

// join takes what the peer's Begin says of a session.
func (c *Conn) join(d *dialog, s said) {
	d.numbers.Peer(s.perform)
	c.remotes[s.channel] = d
	if !d.ended {
		c.tell(api.Event{Kind: api.EvBegin, Channel: d.channel, Perform: s.perform})
	}
}

// dialogAt is the session of a channel of ours, if we have not ended it.
func (c *Conn) dialogAt(channel int) (*dialog, bool) {
	d, is := c.dialogs[channel]
	return d, is && !d.ended
}

func (c *Conn) End(channel int, f api.Fault) api.Errno {
	d, is := c.dialogAt(channel)
	if !is {
		return api.ErrNoSess
	}
	b, e := c.framed(channel, faulted(api.KEnd, f))
	if e != api.OK {
		return e
	}
	c.write(b)
	d.end()
	return api.OK
}

// end is where we have ended a session; it keeps its channels till the peer has, too.
func (d *dialog) end() {
	d.ended = true
	d.ours, d.theirs, d.waits = nil, nil, nil
}

// failDialog ends a session because of what the peer did in it.
func (c *Conn) failDialog(d *dialog, cond string) {
	f := api.Fault{Cond: cond}
	c.say(d.channel, faulted(api.KEnd, f))
	d.end()
	c.tell(api.Event{Kind: api.EvEnd, Channel: d.channel, Fault: f})
}

// hearEnd takes the peer's End, also of a session that we have ended.
func (c *Conn) hearEnd(s said) {
	d, is := c.dialogOf(s.channel)
	if !is {
		return
	}
	delete(c.dialogs, d.channel)
	delete(c.remotes, s.channel)
	if !d.ended {
		c.say(d.channel, perform.Blank(api.KEnd))
		c.tell(api.Event{Kind: api.EvEnd, Channel: d.channel, Fault: s.perform.Fault})
	}
}
