package broker

import (
	"slices"

	"longshore/api"
	"longshore/store"
)

// keep is the store as the broker calls it: with a second try where the disk was full, and with what is known of it, that it is down.
type keep struct {
	store *store.Store
	down  bool
}

// hear takes down whether an answer says that the store is down.
func (k *keep) hear(e api.Errno) api.Errno {
	k.down = k.down || e == api.ErrDown
	return e
}

// try makes a call, once more where the disk was full and the log could be made short.
func (k *keep) try(call func() api.Errno) api.Errno {
	e := k.hear(call())
	if e == api.ErrDiskFull && k.hear(k.store.Compact()) == api.OK {
		e = k.hear(call())
	}
	return e
}

func (k *keep) apply(ops ...api.Op) api.Errno {
	return k.try(func() api.Errno {
		_, e := k.store.Apply(ops)
		return e
	})
}

// remove takes a message away for good.
func (k *keep) remove(queue string, seq int) {
	k.apply(api.Op{Kind: api.OpRemove, Queue: queue, Seq: seq})
}

func (k *keep) back(queue string, seq, holder int, failed bool) {
	k.try(func() api.Errno { return k.store.Back(queue, seq, holder, failed) })
}

func (k *keep) bury(queue string, seq, holder int) {
	k.try(func() api.Errno { return k.store.Bury(queue, seq, holder) })
}

func (k *keep) expire(now int) {
	k.try(func() api.Errno {
		_, e := k.store.Expire(now)
		return e
	})
}

func (k *keep) release(holder int) { k.hear(k.store.Release(holder)) }

// has tells whether there is a queue of that name.
func (k *keep) has(queue string) bool {
	return slices.ContainsFunc(k.store.Queues(), func(c api.QueueConfig) bool { return c.Name == queue })
}
