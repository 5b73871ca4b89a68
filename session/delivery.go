package session

import (
	"longshore/api"
	"longshore/octet"
)

// Deliver gives the next delivery its number.
func (s *Session) Deliver(handle int, tag string, settled bool) (int, api.Errno) {
	id := s.state.NextDelivery
	if e := s.note(s.sending, api.Pending{Id: id, Handle: handle, Tag: tag}, settled); e != api.OK {
		return 0, e
	}
	s.state.NextDelivery = octet.Add(id, 1)
	return id, api.OK
}

// Arrive notes a delivery that came.
func (s *Session) Arrive(id, handle int, tag string, settled bool) api.Errno {
	if !areWords(id) {
		return api.ErrArg
	}
	return s.note(s.receiving, api.Pending{Id: id, Handle: handle, Tag: tag}, settled)
}

// note keeps a delivery of one way, unless it is settled.
func (s *Session) note(way table[api.Pending], p api.Pending, settled bool) api.Errno {
	if !s.handles.has(p.Handle) {
		return api.ErrHandle
	}
	if way.has(p.Id) {
		return api.ErrSeries
	}
	if !settled {
		way[p.Id] = p
	}
	return api.OK
}

// Range tells the unsettled deliveries from first to last.
func (s *Session) Range(sending bool, first, last int) []api.Pending {
	if !areWords(first, last) {
		return nil
	}
	return s.way(sending).from(first, last)
}

// Forget takes one away.
func (s *Session) Forget(sending bool, id int) api.Errno {
	way := s.way(sending)
	if !way.has(id) {
		return api.ErrSeries
	}
	delete(way, id)
	return api.OK
}

// way are the deliveries that were sent, or those that came.
func (s *Session) way(sending bool) table[api.Pending] {
	if sending {
		return s.sending
	}
	return s.receiving
}
