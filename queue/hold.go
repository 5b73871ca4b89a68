package queue

import (
	"container/heap"

	"longshore/api"
)

// Take gives a holder the first message that is free and fits.
func (q *Queue) Take(holder int, fits func(api.Entry) bool) (api.Entry, bool) {
	if holder < 1 {
		return api.Entry{}, false
	}
	i := q.free.first(asking(fits))
	if i == nil {
		return api.Entry{}, false
	}
	i.Holder = holder
	return own(i.Entry), true
}

// asking asks who takes: each time with memory of its own, as it may be kept and changed.
func asking(fits func(api.Entry) bool) func(*item) bool {
	if fits == nil {
		return func(*item) bool { return true }
	}
	return func(i *item) bool { return fits(own(i.Entry)) }
}

// Peek tells the first free message behind another one that fits.
func (q *Queue) Peek(behind int, fits func(api.Entry) bool) (api.Entry, bool) {
	does := asking(fits)
	for _, i := range q.all[q.from(behind):] {
		if i.Seq > behind && i.Holder == 0 && does(i) {
			return own(i.Entry), true
		}
	}
	return api.Entry{}, false
}

// Back gives a message back: whether it is dead now.
func (q *Queue) Back(seq, holder int, failed bool) (api.Entry, bool, api.Errno) {
	at := q.find(seq, holder)
	if holder < 1 || at < 0 {
		return api.Entry{}, false, api.ErrEntry
	}
	i := q.all[at]
	i.Holder = 0
	if failed {
		i.Count = min(i.Count+1, api.MaxWord)
	}
	dead := failed && q.config.Tries > 0 && i.Count >= q.config.Tries
	if dead {
		q.drop(at)
	} else {
		heap.Push(&q.free, i)
	}
	return own(i.Entry), dead, api.OK
}

// Release gives back all that a holder has: their numbers, rising.
func (q *Queue) Release(holder int) []int {
	if holder < 1 {
		return nil
	}
	var seqs []int
	for _, i := range q.all {
		if i.Holder == holder {
			i.Holder = 0
			heap.Push(&q.free, i)
			seqs = append(seqs, i.Seq)
		}
	}
	return seqs
}
