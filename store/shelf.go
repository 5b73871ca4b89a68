package store

import (
	"cmp"
	"maps"
	"slices"

	"longshore/api"
	"longshore/queue"
)

// shelf is a queue, with what must be known of it ahead of what is done to it: a queue has no way back.
type shelf struct {
	queue  *queue.Queue
	config api.QueueConfig
	known  map[int]api.Entry // each of its messages, but for the Data, by its Seq

	// What a draft does stands here alone until the queue's turn comes.
	came map[int]api.Entry
	went map[int]struct{}
}

func newShelf(q *queue.Queue) *shelf {
	return &shelf{queue: q, config: q.Config(), known: map[int]api.Entry{}}
}

// find is a message as the draft has it: one that came with its Data, others without.
func (sh *shelf) find(seq int) (api.Entry, bool) {
	if _, is := sh.went[seq]; is {
		return api.Entry{}, false
	}
	if e, is := sh.came[seq]; is {
		return e, true
	}
	e, is := sh.known[seq]
	return e, is
}

// size is how many messages the draft has.
func (sh *shelf) size() int { return len(sh.known) + len(sh.came) - len(sh.went) }

// refuses is what the queue's Put would answer, if the queue were as the draft has it. What the entry itself must be is asked of another queue, which is alike but empty: its number is new to both.
func (sh *shelf) refuses(e api.Entry) api.Errno {
	if err := queue.New(sh.config).Put(e); err != api.OK {
		return err
	}
	if sh.size() == sh.config.Most {
		return api.ErrQueueFull
	}
	return api.OK
}

// lay lets a message come in the draft, lift lets one go.
func (sh *shelf) lay(e api.Entry) {
	if sh.came == nil {
		sh.came = map[int]api.Entry{}
	}
	sh.came[e.Seq] = e
}

func (sh *shelf) lift(seq int) (api.Entry, bool) {
	e, is := sh.find(seq)
	if !is {
		return api.Entry{}, false
	}
	if _, isNew := sh.came[seq]; isNew {
		delete(sh.came, seq)
		return e, true
	}
	if sh.went == nil {
		sh.went = map[int]struct{}{}
	}
	sh.went[seq] = struct{}{}
	return e, true
}

// settle does to the queue what the draft has done.
func (sh *shelf) settle() {
	for seq := range sh.went {
		sh.remove(seq)
	}
	for _, seq := range slices.Sorted(maps.Keys(sh.came)) {
		sh.put(sh.came[seq])
	}
	sh.forget()
}

// forget lets all be as it was ahead of the draft.
func (sh *shelf) forget() { sh.came, sh.went = nil, nil }

func (sh *shelf) put(e api.Entry) {
	sh.queue.Put(e)
	sh.know(e)
}

func (sh *shelf) remove(seq int) api.Entry {
	e, _ := sh.queue.Remove(seq, sh.known[seq].Holder)
	delete(sh.known, seq)
	return e
}

// know takes down how a message of the queue is now.
func (sh *shelf) know(e api.Entry) {
	e.Data = nil
	sh.known[e.Seq] = e
}

// writes tells whether a message is written here.
func (sh *shelf) writes(e api.Entry) bool { return sh.config.Durable && e.Durable }

// data is a message's bytes, also where it is held.
func (sh *shelf) data(seq int) []byte {
	for e := range sh.queue.All() {
		if e.Seq == seq {
			return e.Data
		}
	}
	return nil
}

// over are the free messages whose time is over, in the queue's order.
func (sh *shelf) over(now int) []api.Entry {
	var gone []api.Entry
	for _, e := range sh.known {
		if e.Holder == 0 && e.Expiry >= 0 && e.Expiry <= now {
			gone = append(gone, e)
		}
	}
	slices.SortFunc(gone, func(a, b api.Entry) int {
		return cmp.Or(cmp.Compare(b.Priority, a.Priority), cmp.Compare(a.Seq, b.Seq))
	})
	return gone
}

// behindBack is what the queue's Back would say of a held message: how it would be, and whether it would be dead. It is asked of another queue, which has that message alone.
func (sh *shelf) behindBack(e api.Entry, failed bool) (api.Entry, bool) {
	q := queue.New(sh.config)
	holder := e.Holder
	e.Holder = 0
	q.Put(e)
	q.Take(holder, nil)
	back, dead, _ := q.Back(e.Seq, holder, failed)
	return back, dead
}
