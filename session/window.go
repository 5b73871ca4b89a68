package session

import (
	"longshore/api"
	"longshore/octet"
)

// most bounds how many transfers may be under way: of more a Gap could not tell the number.
const most = 1<<31 - 1

// Room tells how many transfers may be sent.
func (s *Session) Room() int {
	if !s.state.Peer {
		return 0
	}
	return min(s.state.RemoteIn, s.state.OutWin)
}

// Sent says that a transfer was sent.
func (s *Session) Sent() api.Errno {
	if s.Room() == 0 {
		return api.ErrWindow
	}
	s.state.NextOut = octet.Add(s.state.NextOut, 1)
	s.state.RemoteIn--
	return api.OK
}

// Got says that a transfer has come.
func (s *Session) Got() api.Errno {
	if !s.state.Peer {
		return api.ErrState
	}
	if s.state.InWin == 0 {
		return api.ErrWindow
	}
	s.state.NextIn = octet.Add(s.state.NextIn, 1)
	s.state.InWin--
	s.state.RemoteOut = max(0, s.state.RemoteOut-1)
	return api.OK
}

// Widen sets the own window, but never to less: the peer may have used what it was told.
func (s *Session) Widen(n int) api.Errno {
	if !areWords(n) {
		return api.ErrArg
	}
	s.state.InWin = max(s.state.InWin, n)
	return api.OK
}

// Flow takes the peer's Flow.
func (s *Session) Flow(p api.Perform) api.Errno {
	if !s.state.Peer {
		return api.ErrState
	}
	if !mayFlow(p) {
		return api.ErrArg
	}
	heard := p.NextIn
	if heard == none {
		heard = s.first
	}
	ahead := octet.Gap(heard, s.state.NextOut)
	if ahead < 0 || ahead > p.InWin {
		return api.ErrSeries
	}
	s.state.RemoteIn = min(p.InWin-ahead, most)
	s.state.RemoteOut = p.OutWin
	if octet.Gap(s.state.NextIn, p.NextOut) >= 0 {
		s.state.NextIn = p.NextOut
	}
	return api.OK
}

func mayFlow(p api.Perform) bool {
	return p.Kind == api.KFlow && areWords(p.InWin, p.NextOut, p.OutWin) && (p.NextIn == none || areWords(p.NextIn))
}

// Fields is a Flow with the session's fields.
func (s *Session) Fields() api.Perform {
	nextIn := none
	if s.state.Peer {
		nextIn = s.state.NextIn
	}
	return api.Perform{
		Kind:      api.KFlow,
		NextIn:    nextIn,
		InWin:     s.state.InWin,
		NextOut:   s.state.NextOut,
		OutWin:    s.state.OutWin,
		Handle:    none,
		Count:     none,
		Credit:    none,
		Available: none,
	}
}
