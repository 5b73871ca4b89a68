package store

import "longshore/api"

// held is a message that a holder has, but for its Data, and the shelf that it is of.
func (s *Store) held(queue string, seq, holder int) (*shelf, api.Entry, api.Errno) {
	if !s.disk.Up() {
		return nil, api.Entry{}, api.ErrDown
	}
	sh := s.shelves[queue]
	if sh == nil {
		return nil, api.Entry{}, api.ErrNoQueue
	}
	e, is := sh.known[seq]
	if !is || holder < 1 || e.Holder != holder {
		return nil, api.Entry{}, api.ErrEntry
	}
	return sh, e, api.OK
}

// bury takes a message, which has failed so often, out of its queue: to the dead ones, if they have room for it, else for good.
func (s *Store) bury(from *shelf, seq, count int) api.Errno {
	to := s.grave(from)
	if e := s.write(s.burial(from, to, seq, count)); e != api.OK {
		return e
	}
	e := from.remove(seq)
	if to != nil {
		to.put(s.buried(e, count))
		s.next++
	}
	return api.OK
}

// grave is where dead messages of a shelf go; nil, if that is nowhere.
func (s *Store) grave(from *shelf) *shelf {
	to := s.shelves[from.config.Dead]
	if to == nil || to.size() == to.config.Most || s.next > mostSeq {
		return nil
	}
	return to
}

// buried is a message as it is among the dead ones.
func (s *Store) buried(e api.Entry, count int) api.Entry {
	e.Seq, e.Count, e.Holder = s.next, count, 0
	return e
}

// burial is what is written when a message is buried.
func (s *Store) burial(from, to *shelf, seq, count int) [][]byte {
	e := from.known[seq]
	was, is := from.writes(e), to != nil && to.writes(e)
	switch {
	case was && is:
		op := api.Op{Kind: api.OpMove, Queue: from.config.Name, Seq: seq, To: to.config.Name, Count: count}
		op.Entry.Seq = s.next
		return [][]byte{recordOf(op)}
	case was:
		return [][]byte{recordOf(api.Op{Kind: api.OpRemove, Queue: from.config.Name, Seq: seq})}
	case is:
		e.Data = from.data(seq)
		return [][]byte{recordOf(api.Op{Kind: api.OpPut, Queue: to.config.Name, Entry: s.buried(e, count)})}
	}
	return nil
}
