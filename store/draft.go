package store

import (
	"maps"

	"longshore/api"
	"longshore/queue"
	"longshore/route"
)

// draft is what there would be behind operations that may yet be refused. What there is stays as it is, but that its shelves note what came and went.
type draft struct {
	state
	own bool // the router is the draft's, no other one's
}

func (s *Store) draft() *draft {
	d := &draft{state: s.state}
	d.shelves = maps.Clone(s.shelves)
	return d
}

// ownRouter is the draft's router, which may be changed; it is made when it is asked for first.
func (d *draft) ownRouter() *route.Router {
	if d.own {
		return d.router
	}
	all := d.router.Bindings()
	d.router, d.own = route.New(), true
	for _, b := range all {
		d.router.Bind(b)
	}
	return d.router
}

// writes tells whether an operation changes what is written. It is asked ahead of the operation.
func (d *draft) writes(op api.Op) bool {
	if op.Kind == api.OpDeclare {
		return op.Config.Durable
	}
	sh := d.shelves[op.Queue]
	if sh == nil {
		return false
	}
	switch op.Kind {
	case api.OpPut:
		return sh.writes(op.Entry)
	case api.OpRemove:
		e, is := sh.find(op.Seq)
		return is && sh.writes(e)
	}
	return sh.config.Durable
}

// do carries an operation out, or tells why it is refused.
func (d *draft) do(op api.Op) api.Errno {
	switch {
	case op.Kind == api.OpDeclare:
		return d.declare(op.Config)
	case op.Kind < api.OpDelete || op.Kind > api.OpRemove:
		return api.ErrOp
	case d.shelves[op.Queue] == nil:
		return api.ErrNoQueue
	}
	return d.doTo(d.shelves[op.Queue], op)
}

func (d *draft) doTo(sh *shelf, op api.Op) api.Errno {
	switch op.Kind {
	case api.OpBind:
		return d.ownRouter().Bind(api.Binding{Pattern: op.Pattern, Queue: op.Queue})
	case api.OpUnbind:
		return d.ownRouter().Unbind(api.Binding{Pattern: op.Pattern, Queue: op.Queue})
	case api.OpPut:
		return d.put(sh, op.Entry)
	case api.OpRemove:
		if _, is := sh.lift(op.Seq); !is {
			return api.ErrEntry
		}
		return api.OK
	}
	delete(d.shelves, op.Queue)
	d.ownRouter().Drop(op.Queue)
	return api.OK
}

func (d *draft) declare(c api.QueueConfig) api.Errno {
	q := queue.New(c)
	switch {
	case q == nil:
		return api.ErrQueue
	case d.shelves[c.Name] != nil:
		return api.ErrThere
	case len(d.shelves) == api.MaxQueues:
		return api.ErrLong
	}
	sh := newShelf(q)
	d.shelves[sh.config.Name] = sh // the queue's own text: the other one may be a piece of a long one
	return api.OK
}

func (d *draft) put(sh *shelf, e api.Entry) api.Errno {
	switch {
	case d.next > mostSeq:
		return api.ErrLong
	case e.Seq != d.next:
		return api.ErrEntry
	}
	if err := sh.refuses(e); err != api.OK {
		return err
	}
	sh.lay(e)
	d.next++
	return api.OK
}

// replay carries out what a record of the log says; false, if it can't be.
func (d *draft) replay(record []byte) bool {
	op, is := opOf(record)
	if is && op.Kind == api.OpMove {
		op, is = d.leave(op)
	}
	if !is {
		return false
	}
	if op.Kind == api.OpPut {
		if op.Entry.Seq < d.next {
			return false
		}
		d.next = op.Entry.Seq // the log passes over the numbers of what is not written
	}
	return d.do(op) == api.OK
}

// leave lets a message leave its queue, and is what is left to do then of its way to another one.
func (d *draft) leave(move api.Op) (api.Op, bool) {
	from := d.shelves[move.Queue]
	if from == nil {
		return api.Op{}, false
	}
	e, is := from.lift(move.Seq)
	e.Seq, e.Count = move.Entry.Seq, move.Count
	return api.Op{Kind: api.OpPut, Queue: move.To, Entry: e}, is
}
