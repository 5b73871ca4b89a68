package txn_test

import (
	"fmt"
	"slices"

	"longshore/api"
	"longshore/store"
)

// model is transactions made another way: one list of parts each, which is gone over for each thing that is asked; how many messages a queue would have is reckoned anew each time, out of the store and the operations so far.
type model struct {
	s     *store.Store
	l     []mTxn
	count int
}

var _ calls = (*model)(nil)

type mTxn struct {
	id    string
	owner int
	parts []mPart
}

// mPart is a part: of one that puts the Kind of its outcome is 0.
type mPart struct {
	queue       string
	e           api.Entry
	seq, holder int
	outcome     api.State
}

func (m *model) Declare(owner int) (string, api.Errno) {
	if len(m.l) >= maxTxns {
		return "", 221
	}
	m.count++
	m.l = append(m.l, mTxn{id: fmt.Sprint("t", m.count), owner: owner})
	return fmt.Sprint("t", m.count), 0
}

// at is the place of a transaction; -1, if there is none.
func (m *model) at(id string, owner int) int {
	return slices.IndexFunc(m.l, func(x mTxn) bool { return x.id == id && x.owner == owner })
}

// add adds a part, if nothing is amiss.
func (m *model) add(id string, owner int, p mPart, amiss func() api.Errno) api.Errno {
	at := m.at(id, owner)
	if at < 0 {
		return 220
	}
	if len(m.l[at].parts) >= maxOps {
		return 222
	}
	if e := amiss(); e != 0 {
		return e
	}
	m.l[at].parts = append(m.l[at].parts, p)
	return 0
}

func (m *model) Put(id string, owner int, queue string, e api.Entry) api.Errno {
	e.Data = slices.Clone(e.Data)
	return m.add(id, owner, mPart{queue: queue, e: e}, func() api.Errno {
		switch {
		case m.config(queue) == nil:
			return 210
		case e.Priority < 0, e.Priority > 9, e.Expiry < -1, e.Expiry > maxTime, e.Count < 0, e.Count > maxWord, e.Holder != 0:
			return 171
		case len(e.Data) > maxMessage:
			return 2
		}
		return 0
	})
}

func (m *model) Done(id string, owner int, queue string, seq, holder int, outcome api.State) api.Errno {
	return m.add(id, owner, mPart{queue: queue, seq: seq, holder: holder, outcome: outcome}, func() api.Errno {
		if outcome.Kind < 36 || outcome.Kind > 39 {
			return 1
		}
		if m.config(queue) == nil {
			return 210
		}
		for _, x := range m.l {
			for _, p := range x.parts {
				if p.outcome.Kind != 0 && p.queue == queue && p.seq == seq {
					return 171
				}
			}
		}
		if m.message(queue, seq, holder) == nil {
			return 171
		}
		return 0
	})
}

// config is a queue's; nil, if there is no such queue.
func (m *model) config(queue string) *api.QueueConfig {
	for _, c := range m.s.Queues() {
		if c.Name == queue {
			return &c
		}
	}
	return nil
}

// message is one that this holder has; nil, if there is none.
func (m *model) message(queue string, seq, holder int) *api.Entry {
	for _, e := range m.s.Entries(queue) {
		if e.Seq == seq && e.Holder == holder && e.Holder > 0 {
			return &e
		}
	}
	return nil
}

func (m *model) Discharge(id string, owner int, fail bool) api.Errno {
	at := m.at(id, owner)
	if at < 0 {
		return 220
	}
	parts := m.l[at].parts
	m.l = slices.Delete(m.l, at, at+1)
	if fail {
		return 0
	}
	for _, p := range parts {
		if p.outcome.Kind != 0 && m.message(p.queue, p.seq, p.holder) == nil {
			return 171
		}
	}
	if _, e := m.s.Apply(m.batch(parts)); e != 0 {
		return e
	}
	for _, p := range parts {
		if p.outcome.Kind != 0 && m.message(p.queue, p.seq, p.holder) != nil {
			if e := m.s.Back(p.queue, p.seq, p.holder, p.outcome.Kind == 39 && p.outcome.Failed); e != 0 {
				panic("a message can't be given back")
			}
		}
	}
	return 0
}

// batch is what the store is to do at one stroke.
func (m *model) batch(parts []mPart) []api.Op {
	var ops []api.Op
	for _, p := range parts {
		if p.outcome.Kind == 36 || m.isDead(p) {
			ops = append(ops, remove(p.queue, p.seq))
		}
	}
	next := func() int { return m.s.Next() + len(slices.DeleteFunc(slices.Clone(ops), isRemove)) }
	for _, p := range parts {
		if p.outcome.Kind == 0 {
			p.e.Seq = next()
			ops = append(ops, put(p.queue, p.e))
		}
	}
	for _, p := range parts {
		if !m.isDead(p) {
			continue
		}
		e := *m.message(p.queue, p.seq, p.holder)
		e.Seq, e.Holder = next(), 0
		if p.outcome.Kind == 39 && e.Count < maxWord {
			e.Count++
		}
		to := m.config(m.config(p.queue).Dead)
		if to != nil && m.size(to.Name, ops) < to.Most && e.Seq <= lastSeq {
			ops = append(ops, put(to.Name, e))
		}
	}
	return ops
}

func isRemove(op api.Op) bool { return op.Kind == 6 }

// isDead tells whether a part leaves a message dead.
func (m *model) isDead(p mPart) bool {
	switch p.outcome.Kind {
	case 37:
		return true
	case 39:
		tries := m.config(p.queue).Tries
		return p.outcome.Failed && tries > 0 && m.message(p.queue, p.seq, p.holder).Count >= tries-1
	}
	return false
}

// size is how many messages a queue would have.
func (m *model) size(queue string, ops []api.Op) int {
	n := len(m.s.Entries(queue))
	for _, op := range ops {
		if op.Queue == queue && isRemove(op) {
			n--
		} else if op.Queue == queue {
			n++
		}
	}
	return n
}

func (m *model) Drop(owner int) int {
	n := 0
	for at := m.ofOwner(owner); at >= 0; at = m.ofOwner(owner) {
		m.l = slices.Delete(m.l, at, at+1)
		n++
	}
	return n
}

func (m *model) ofOwner(owner int) int {
	return slices.IndexFunc(m.l, func(x mTxn) bool { return x.owner == owner })
}

func (m *model) Open() []string {
	var l []string
	for _, x := range m.l {
		l = append(l, x.id)
	}
	slices.Sort(l)
	return l
}
