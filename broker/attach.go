package broker

import (
	"strconv"
	"strings"

	"longshore/api"
	"longshore/perform"
	"longshore/route"
)

// Conditions of faults that are found in several places.
const (
	invalidField   = "invalid-field"
	notFound       = "not-found"
	notImplemented = "not-implemented"
	noRoom         = "resource-limit-exceeded"
)

// attach answers a link of the peer's, or refuses it.
func (b *Broker) attach(at place, e api.Event) {
	switch {
	case at.handle >= 0: // a link that we have attached first: there is none
	case e.Perform.Receiver:
		b.attachOutlet(at, e.Perform)
	default:
		b.attachIntake(at, e.Perform)
	}
}

// answerTo is what any answer to the peer's Attach says, also one that refuses.
func answerTo(p api.Perform) api.Perform {
	answer := perform.Blank(api.KAttach)
	answer.Name, answer.SndMode, answer.RcvMode, answer.Receiver = p.Name, p.SndMode, p.RcvMode, !p.Receiver
	if p.Receiver {
		answer.InitialCount = 0
	}
	return answer
}

func (b *Broker) refuse(at place, p api.Perform, cond string) {
	end := b.ends[at.conn]
	if handle, e := end.Attach(at.channel, answerTo(p)); e == api.OK {
		end.Detach(at.channel, handle, true, api.Fault{Cond: cond})
	}
}

// attachIntake answers a peer that sends.
func (b *Broker) attachIntake(at place, p api.Perform) {
	in, cond := b.intakeTo(p.Target)
	if cond != "" {
		b.refuse(at, p, cond)
		return
	}
	answer := answerTo(p)
	answer.Source, answer.Target = p.Source, p.Target
	answer.RcvMode, answer.MaxMessage = api.RcvFirst, api.MaxMessage
	end := b.ends[at.conn]
	handle, e := end.Attach(at.channel, answer)
	if e != api.OK {
		return
	}
	b.intakes[place{at.conn, at.channel, handle}] = in
	end.Credit(at.channel, handle, ahead, false)
}

// intakeTo is a link that leads to a target, or the condition with which it is refused.
func (b *Broker) intakeTo(t api.Terminus) (intake, string) {
	switch {
	case t.Kind == api.KCoordinator:
		return intake{kind: route.ToTxns}, ""
	case t.Kind == 0 || t.Dynamic:
		return intake{}, notImplemented
	}
	kind, name, e := route.Address(t.Address)
	switch {
	case e != api.OK, kind == route.ToTopic && strings.ContainsAny(name, "*#"):
		return intake{}, invalidField
	case kind == route.ToQueue && !b.keep.has(name):
		return intake{}, notFound
	}
	return intake{kind, name}, ""
}

// attachOutlet answers a peer that receives.
func (b *Broker) attachOutlet(at place, p api.Perform) {
	o, cond := b.outletFrom(p.Source)
	if cond != "" {
		b.refuse(at, p, cond)
		return
	}
	answer := answerTo(p)
	answer.Source, answer.Target = p.Source, p.Target
	if p.Source.Dynamic {
		answer.Source.Address = "queue/" + o.queue
	}
	o.settles = p.SndMode == api.SndSettled
	if !o.settles {
		answer.SndMode = api.SndOpen
	}
	handle, e := b.ends[at.conn].Attach(at.channel, answer)
	if e != api.OK {
		b.giveUp(o)
		return
	}
	b.holders++
	o.holder = b.holders
	b.outlets[place{at.conn, at.channel, handle}] = o
}

// outletFrom is a link that serves a source, or the condition with which it is refused.
func (b *Broker) outletFrom(s api.Terminus) (*outlet, string) {
	fits, is := filterOf(s.Filter)
	if s.Kind == 0 || !is {
		return nil, invalidField
	}
	o := &outlet{fits: fits, copies: s.Mode == 1, sent: map[string]int{}}
	if s.Dynamic {
		return o, b.makePrivate(o, "tmp-", "")
	}
	kind, name, e := route.Address(s.Address)
	switch {
	case e != api.OK || kind == route.ToTxns:
		return nil, invalidField
	case kind == route.ToTopic:
		return o, b.makePrivate(o, "sub-", name)
	case !b.keep.has(name):
		return nil, notFound
	}
	o.queue = name
	return o, ""
}

// makePrivate makes a link's private queue, and binds it to a pattern, if there is one; it tells the condition where that is refused.
func (b *Broker) makePrivate(o *outlet, word, pattern string) string {
	b.privates++
	o.private, o.queue = true, word+strconv.Itoa(b.privates)
	ops := []api.Op{{Kind: api.OpDeclare, Config: api.QueueConfig{Name: o.queue, Most: api.MaxQueue}}}
	if pattern != "" {
		ops = append(ops, api.Op{Kind: api.OpBind, Pattern: pattern, Queue: o.queue})
	}
	if b.keep.apply(ops...) != api.OK {
		return noRoom
	}
	return ""
}

// giveUp deletes a link's private queue, if it has one.
func (b *Broker) giveUp(o *outlet) {
	if o.private {
		b.keep.apply(api.Op{Kind: api.OpDelete, Queue: o.queue})
	}
}
