package link

import (
	"longshore/api"
	"longshore/octet"
)

// mostCredit bounds the credit that is given: of more a Gap could not tell the number.
const mostCredit = 1<<31 - 1

// Grant gives the sender so much credit from now on (of a receiver).
func (l *Link) Grant(credit int, drain bool) api.Errno {
	if !l.state.Receiver {
		return api.ErrState
	}
	if !isWithin(credit, mostCredit) {
		return api.ErrArg
	}
	l.state.Credit = credit
	l.state.Drain = drain && credit > 0
	// Where less is given than before, what was asked for may be under way.
	if asked := octet.Add(l.state.Count, credit); octet.Before(l.bound, asked) {
		l.bound = asked
	}
	return api.OK
}

// Flow takes the peer's Flow.
func (l *Link) Flow(p api.Perform) api.Errno {
	if p.Kind != api.KFlow {
		return api.ErrArg
	}
	if l.state.Receiver {
		l.hearSender(p)
	} else {
		l.hearReceiver(p)
	}
	return api.OK
}

// hearReceiver takes, as the sender, the credit that is left of what was given when the receiver had counted so far.
func (l *Link) hearReceiver(p api.Perform) {
	if p.Credit == none {
		return
	}
	counted := p.Count
	if counted == none {
		counted = l.first
	}
	left := octet.Gap(l.state.Count, octet.Add(counted, p.Credit))
	l.state.Credit = max(0, left)
	l.state.Drain = p.Drain
}

// hearSender takes, as the receiver, how many deliveries wait, and how many will not come.
func (l *Link) hearSender(p api.Perform) {
	if p.Available != none {
		l.state.Available = octet.Add(0, p.Available)
	}
	if p.Count == none {
		return
	}
	if n := octet.Gap(l.state.Count, p.Count); n > 0 {
		l.goOn(min(n, octet.Gap(l.state.Count, l.bound)))
	}
}

// goOn counts so many deliveries, whether they were sent or given up.
func (l *Link) goOn(n int) {
	l.state.Count = octet.Add(l.state.Count, n)
	l.state.Credit = max(0, l.state.Credit-n)
	if l.state.Receiver && l.state.Credit == 0 {
		l.state.Drain = false
	}
}

// Available says how many deliveries wait (of a sender).
func (l *Link) Available(n int) api.Errno {
	if l.state.Receiver {
		return api.ErrState
	}
	if !isWithin(n, api.MaxWord) {
		return api.ErrArg
	}
	l.state.Available = n
	return api.OK
}

// Drained gives up the credit that is to be drained (of a sender): whether there was any.
func (l *Link) Drained() bool {
	if l.state.Receiver || !l.state.Drain || l.state.Credit == 0 {
		return false
	}
	l.goOn(l.state.Credit)
	return true
}
