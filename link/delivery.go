package link

import (
	"cmp"
	"slices"

	"longshore/api"
	"longshore/owned"
	"longshore/terms"
)

// delivery is one that is not settled: what we, and what the peer says of it.
type delivery struct {
	own, peer api.State
}

// Send says that a delivery is sent (of a sender).
func (l *Link) Send(tag string, settled bool) api.Errno {
	if l.state.Receiver {
		return api.ErrState
	}
	return l.note(tag, settled, l.state.Credit == 0)
}

// Got says that a delivery has come (of a receiver).
func (l *Link) Got(tag string, settled bool) api.Errno {
	if !l.state.Receiver {
		return api.ErrState
	}
	// By the bound, not by the credit: it takes what was under way when it asked for less.
	return l.note(tag, settled, l.state.Count == l.bound)
}

// note counts a delivery, and keeps it, unless it is settled.
func (l *Link) note(tag string, settled, usedUp bool) api.Errno {
	if len(tag) == 0 || len(tag) > api.MaxTag {
		return api.ErrTag
	}
	if usedUp {
		return api.ErrCredit
	}
	if _, twice := l.deliveries[tag]; twice {
		return api.ErrTwice
	}
	if settled && l.sndMode == api.SndOpen || !settled && l.sndMode == api.SndSettled {
		return api.ErrMode
	}
	l.goOn(1)
	l.state.Available = max(0, l.state.Available-1)
	if !settled {
		l.deliveries[tag] = delivery{}
	}
	return api.OK
}

// Own is what we say of a delivery.
func (l *Link) Own(tag string, s api.State, settled bool) api.Errno {
	d, is := l.deliveries[tag]
	if !is {
		return api.ErrNone
	}
	if settled && !l.maySettle(l.state.Receiver) {
		return api.ErrMode
	}
	d.own = said(d.own, s)
	l.keep(tag, d, settled)
	return api.OK
}

// Peer is what the peer says of a delivery, and tells whether that is news.
func (l *Link) Peer(tag string, s api.State, settled bool) (bool, api.Errno) {
	d, is := l.deliveries[tag]
	if !is {
		return false, api.ErrNone
	}
	if settled && !l.maySettle(!l.state.Receiver) {
		return false, api.ErrMode
	}
	news := settled || s.Kind != 0 && !terms.Same(s, d.peer)
	d.peer = said(d.peer, s)
	l.keep(tag, d, settled)
	return news, api.OK
}

// maySettle tells whether one who is the receiver, or is not, may settle: in RcvSecond a receiver leaves that to the sender.
func (l *Link) maySettle(receiver bool) bool {
	return !receiver || l.rcvMode != api.RcvSecond
}

// said is the state that was said last: of none that there was.
func said(before, now api.State) api.State {
	if now.Kind == 0 {
		return before
	}
	return owned.State(now)
}

func (l *Link) keep(tag string, d delivery, settled bool) {
	if settled {
		delete(l.deliveries, tag)
		return
	}
	l.deliveries[tag] = d
}

// Look tells what both say of a delivery.
func (l *Link) Look(tag string) (api.State, api.State, bool) {
	d, is := l.deliveries[tag]
	return owned.State(d.own), owned.State(d.peer), is
}

// Unsettled tells the unsettled deliveries, by rising tags, with what we say of them.
func (l *Link) Unsettled() []api.Unsettled {
	list := make([]api.Unsettled, 0, len(l.deliveries))
	for tag, d := range l.deliveries {
		list = append(list, api.Unsettled{Tag: tag, State: owned.State(d.own)})
	}
	slices.SortFunc(list, func(a, b api.Unsettled) int { return cmp.Compare(a.Tag, b.Tag) })
	return list
}
