package txn

import (
	"longshore/api"
	"longshore/store"
)

const mostSeq = 1 << 62

// batch is the operations of a discharge, one behind the other, and what must be known of the store ahead of them.
type batch struct {
	ops     []api.Op
	next    int // the number of the next message behind them
	configs map[string]api.QueueConfig
	store   *store.Store
	asked   map[string][]api.Entry // those of the queues of which it was asked
	more    map[string]int         // how many more messages than ahead of them a queue has behind them
}

func newBatch(s *store.Store) *batch {
	b := &batch{next: s.Next(), configs: map[string]api.QueueConfig{}, store: s, asked: map[string][]api.Entry{}, more: map[string]int{}}
	for _, c := range s.Queues() {
		b.configs[c.Name] = c
	}
	return b
}

// entries are a queue's messages ahead of the batch. The store is asked but once, as it copies all of them.
func (b *batch) entries(queue string) []api.Entry {
	l, is := b.asked[queue]
	if !is {
		l = b.store.Entries(queue)
		b.asked[queue] = l
	}
	return l
}

func (b *batch) remove(queue string, seq int) {
	b.ops = append(b.ops, api.Op{Kind: api.OpRemove, Queue: queue, Seq: seq})
	b.more[queue]--
}

// fill puts messages, and then dead ones, as far as there is room for those.
func (b *batch) fill(puts, dead []api.Op) {
	for _, op := range puts {
		b.put(op)
	}
	for _, op := range dead {
		if b.hasRoom(op.Queue) {
			b.put(op)
		}
	}
}

// put puts a message under the next number.
func (b *batch) put(op api.Op) {
	op.Entry.Seq = b.next
	b.ops = append(b.ops, op)
	b.next++
	b.more[op.Queue]++
}

// hasRoom tells whether a dead message may be put into a queue now.
func (b *batch) hasRoom(queue string) bool {
	c, is := b.configs[queue]
	return is && b.next <= mostSeq && len(b.entries(queue))+b.more[queue] < c.Most
}
