package txn

import (
	"longshore/api"
	"longshore/store"
)

// parts are what a transaction is to do. Those of a kind stand in the order in which they came; how the two kinds came among one another is of no account.
type parts struct {
	puts    []api.Op // messages to be put, without their Seqs
	endings []ending
}

// ending is that a message is done with.
type ending struct {
	queue       string
	seq, holder int
	outcome     int
	failed      bool // modified, and it said Failed
}

func (p *parts) count() int { return len(p.puts) + len(p.endings) }

// put adds a message, in memory of its own.
func (p *parts) put(queue string, e api.Entry) {
	e.Data = append([]byte(nil), e.Data...)
	p.puts = append(p.puts, api.Op{Kind: api.OpPut, Queue: queue, Entry: e})
}

func (p *parts) done(d ending) { p.endings = append(p.endings, d) }

// hasDone tells whether a message is done with here.
func (p *parts) hasDone(queue string, seq int) bool {
	for _, d := range p.endings {
		if d.queue == queue && d.seq == seq {
			return true
		}
	}
	return false
}

// discharge does all of it, or nothing.
func (p *parts) discharge(s *store.Store) api.Errno {
	b := newBatch(s)
	var dead []api.Op
	var back []ending
	for _, d := range p.endings {
		e, is := held(b.entries(d.queue), d.seq, d.holder)
		if !is {
			return api.ErrEntry
		}
		c := b.configs[d.queue]
		goes, dies := d.fate(c, e)
		if goes {
			b.remove(d.queue, d.seq)
		} else {
			back = append(back, d)
		}
		if dies {
			dead = append(dead, api.Op{Kind: api.OpPut, Queue: c.Dead, Entry: d.corpse(e)})
		}
	}
	b.fill(p.puts, dead)
	if _, e := s.Apply(b.ops); e != api.OK {
		return e
	}
	for _, d := range back {
		s.Back(d.queue, d.seq, d.holder, d.failed)
	}
	return api.OK
}

// fate is what becomes of a message that is done with: whether it goes, and whether it is dead then.
func (d ending) fate(c api.QueueConfig, e api.Entry) (bool, bool) {
	switch d.outcome {
	case api.KAccepted:
		return true, false
	case api.KRejected:
		return true, true
	}
	dies := d.failed && c.Tries > 0 && e.Count+1 >= c.Tries
	return dies, dies
}

// corpse is a message as it is when it is dead.
func (d ending) corpse(e api.Entry) api.Entry {
	if d.failed {
		e.Count = min(e.Count+1, api.MaxWord)
	}
	e.Holder = 0
	return e
}

// held is the message of that Seq, if that holder has it.
func held(l []api.Entry, seq, holder int) (api.Entry, bool) {
	for _, e := range l {
		if e.Seq == seq && e.Holder == holder && holder >= 1 {
			return e, true
		}
	}
	return api.Entry{}, false
}
