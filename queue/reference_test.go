package queue_test

import (
	"iter"
	"regexp"
	"slices"

	"longshore/api"
)

// model is a second way to what the chapter says: one list of all that was ever Put, in that order, with what became of each; it is gone over, priority by priority, for each call.
type model struct {
	c   api.QueueConfig
	was []*place
}

// place is an entry that was Put; one that is gone stays in the list.
type place struct {
	e    api.Entry
	gone bool
}

var name = regexp.MustCompile(`\A[a-z0-9\-._]{1,64}\z`)

// newModel is nil where New must be.
func newModel(c api.QueueConfig) *model {
	dead := c.Dead == "" || name.MatchString(c.Dead) && c.Dead != c.Name
	if name.MatchString(c.Name) && c.Most > 0 && c.Most <= maxQueue && dead && c.Tries >= 0 && c.Tries <= maxWord {
		return &model{c: c}
	}
	return nil
}

func within(n, least, most int) bool { return n >= least && n <= most }

func copied(e api.Entry) api.Entry {
	e.Data = slices.Concat([]byte{}, e.Data)
	return e
}

// here are the entries that are in the queue, by age.
func (m *model) here() []*place {
	var l []*place
	for _, p := range m.was {
		if !p.gone {
			l = append(l, p)
		}
	}
	return l
}

// inOrder are they, in the queue's order.
func (m *model) inOrder() []*place {
	var l []*place
	for priority := 9; priority >= 0; priority-- {
		for _, p := range m.here() {
			if p.e.Priority == priority {
				l = append(l, p)
			}
		}
	}
	return l
}

func (m *model) Put(e api.Entry) api.Errno {
	if !within(e.Seq, 1, 1<<63-1) || !within(e.Priority, 0, 9) || !within(e.Expiry, -1, maxTime) || !within(e.Count, 0, maxWord) || e.Holder != 0 {
		return api.ErrEntry
	}
	for _, p := range m.was {
		if p.e.Seq >= e.Seq {
			return api.ErrEntry
		}
	}
	if len(e.Data) > maxMessage {
		return api.ErrLong
	}
	if len(m.here()) >= m.c.Most {
		return api.ErrQueueFull
	}
	m.was = append(m.was, &place{e: copied(e)})
	return api.OK
}

// firstFree is the first one of a list that is free and fits.
func firstFree(l []*place, fits func(api.Entry) bool) *place {
	for _, p := range l {
		if p.e.Holder == 0 && (fits == nil || fits(copied(p.e))) {
			return p
		}
	}
	return nil
}

func (m *model) Take(holder int, fits func(api.Entry) bool) (api.Entry, bool) {
	if holder <= 0 {
		return api.Entry{}, false
	}
	p := firstFree(m.inOrder(), fits)
	if p == nil {
		return api.Entry{}, false
	}
	p.e.Holder = holder
	return copied(p.e), true
}

func (m *model) Peek(behind int, fits func(api.Entry) bool) (api.Entry, bool) {
	l := slices.DeleteFunc(m.here(), func(p *place) bool { return p.e.Seq <= behind })
	p := firstFree(l, fits)
	if p == nil {
		return api.Entry{}, false
	}
	return copied(p.e), true
}

// one is the entry with this Seq and this Holder.
func (m *model) one(seq, holder int) *place {
	for _, p := range m.here() {
		if p.e.Seq == seq && p.e.Holder == holder {
			return p
		}
	}
	return nil
}

func (m *model) Back(seq, holder int, failed bool) (api.Entry, bool, api.Errno) {
	p := m.one(seq, holder)
	if p == nil || holder <= 0 {
		return api.Entry{}, false, api.ErrEntry
	}
	p.e.Holder = 0
	if failed {
		if p.e.Count != maxWord {
			p.e.Count++
		}
		p.gone = m.c.Tries != 0 && p.e.Count >= m.c.Tries
	}
	return copied(p.e), p.gone, api.OK
}

func (m *model) Remove(seq, holder int) (api.Entry, api.Errno) {
	p := m.one(seq, holder)
	if p == nil {
		return api.Entry{}, api.ErrEntry
	}
	p.gone = true
	return copied(p.e), api.OK
}

func (m *model) Release(holder int) []int {
	var seqs []int
	for _, p := range m.here() {
		if holder > 0 && p.e.Holder == holder {
			p.e.Holder = 0
			seqs = append(seqs, p.e.Seq)
		}
	}
	return seqs
}

func (m *model) Expire(now int) []api.Entry {
	var l []api.Entry
	for _, p := range m.inOrder() {
		if p.e.Holder == 0 && within(p.e.Expiry, 0, now) {
			p.gone = true
			l = append(l, copied(p.e))
		}
	}
	return l
}

func (m *model) All() iter.Seq[api.Entry] {
	return func(yield func(api.Entry) bool) {
		var l []api.Entry
		for _, p := range m.inOrder() {
			l = append(l, copied(p.e))
		}
		slices.Values(l)(yield)
	}
}

func (m *model) Len() (int, int) {
	free := 0
	for _, p := range m.here() {
		if p.e.Holder == 0 {
			free++
		}
	}
	return free, len(m.here()) - free
}

func (m *model) Config() api.QueueConfig { return m.c }
