package broker

import (
	"maps"
	"slices"

	"longshore/api"
	"longshore/message"
	"longshore/octet"
	"longshore/sieve"
	"longshore/terms"
)

const tagSize = 8

// outlet is a link on which we send.
type outlet struct {
	queue   string
	private bool                 // the queue is the link's own
	fits    func(api.Entry) bool // its filter
	copies  bool                 // what it sends stays in the queue
	settles bool                 // what it sends is settled
	holder  int
	count   int            // how many deliveries there were
	last    int            // if it copies: the number of the message that it was given last
	sent    map[string]int // the numbers of the messages that were sent and are not done with, by their tags
}

// filterOf is what asks of a message whether it fits; false, if the text is no filter.
func filterOf(text string) (func(api.Entry) bool, bool) {
	if text == "" {
		return func(api.Entry) bool { return true }, true
	}
	t, _, e := sieve.Parse(text)
	if e != api.OK {
		return nil, false
	}
	return func(e api.Entry) bool {
		m, _, err := message.Decode(e.Data)
		return err == api.OK && sieve.Fits(t, m)
	}, true
}

// turn is a link that may be given messages in the serving that runs.
type turn struct {
	at place
	*outlet
	credit int
	drain  bool
}

// serve gives the links that have credit what there is for them, message by message in turn; then it drains those that want it.
func (b *Broker) serve() {
	turns := b.turns()
	behind := b.keep.store.Next()
	for left := turns; len(left) > 0; {
		left = b.round(left, behind)
	}
	for _, t := range turns {
		if t.drain && !b.keep.down {
			b.ends[t.at.conn].Drained(t.at.channel, t.at.handle)
		}
	}
}

// turns are the links that have credit, in their order.
func (b *Broker) turns() []turn {
	var all []turn
	var states map[place]api.LinkState
	for _, at := range slices.SortedFunc(maps.Keys(b.outlets), inOrder) {
		s, is := states[at]
		if !is { // another session than the one ahead
			states = b.states(at.conn, at.channel)
			s = states[at]
		}
		if s.Credit > 0 {
			all = append(all, turn{at, b.outlets[at], s.Credit, s.Drain})
		}
	}
	return all
}

// round gives each link a message, one whose number is below behind, and is the links that may be given another one. Where there is none now, none comes any more: no message becomes free while all is served.
func (b *Broker) round(turns []turn, behind int) []turn {
	var left []turn
	for _, t := range turns {
		if b.keep.down {
			return nil
		}
		e, is := b.next(t.outlet, behind)
		if !is {
			continue
		}
		if b.send(t, e) {
			t.credit--
		}
		if t.credit > 0 {
			left = append(left, t)
		}
	}
	return left
}

// next is the next message for a link.
func (b *Broker) next(o *outlet, behind int) (api.Entry, bool) {
	fits := func(e api.Entry) bool { return e.Seq < behind && o.fits(e) }
	if !o.copies {
		return b.keep.store.Take(o.queue, o.holder, fits)
	}
	e, is := b.keep.store.Peek(o.queue, o.last, fits)
	if is {
		o.last = e.Seq
	}
	return e, is
}

// send sends a message; false, if the end refuses it.
func (b *Broker) send(t turn, e api.Entry) bool {
	data, err := message.Again(e.Data, e.Count)
	if err != api.OK {
		data = e.Data
	}
	tag := string(octet.Put(uint64(t.count), tagSize))
	_, err = b.ends[t.at.conn].Send(t.at.channel, t.at.handle, tag, data, t.settles, api.State{})
	switch {
	case err != api.OK && !t.copies:
		b.keep.bury(t.queue, e.Seq, t.holder)
	case err != api.OK:
	case !t.settles:
		t.sent[tag] = e.Seq
	case !t.copies:
		b.keep.remove(t.queue, e.Seq)
	}
	if err == api.OK {
		t.count++
	}
	return err == api.OK
}

// hearState takes what the peer says of a delivery that we have sent.
func (b *Broker) hearState(at place, e api.Event) {
	o := b.outlets[at]
	if o == nil {
		return
	}
	tag := e.Delivery.Tag
	seq, is := o.sent[tag]
	if !is || !e.Settled && !terms.Outcome(e.State) && !isEnlisted(e.State) {
		return
	}
	delete(o.sent, tag)
	if !o.copies {
		b.endDelivery(at.conn, o, seq, e.State)
	}
	if !e.Settled && !b.keep.down {
		b.ends[at.conn].Settle(at.channel, at.handle, tag, e.State, true)
	}
}

// isEnlisted tells whether a state is an outcome within a transaction.
func isEnlisted(s api.State) bool { return s.Kind == api.KTransactional && len(s.Inner) > 0 }

// endDelivery does to a message that was taken what its delivery's last state says.
func (b *Broker) endDelivery(conn int, o *outlet, seq int, s api.State) {
	if isEnlisted(s) {
		if b.txns.Done(s.Txn, conn, o.queue, seq, o.holder, s.Inner[0]) == api.OK {
			return
		}
		s = api.State{Kind: api.KModified, Failed: true}
	}
	switch s.Kind {
	case api.KAccepted:
		b.keep.remove(o.queue, seq)
	case api.KRejected:
		b.keep.bury(o.queue, seq, o.holder)
	default:
		// Failed is of a modified one alone.
		b.keep.back(o.queue, seq, o.holder, s.Failed)
	}
}
