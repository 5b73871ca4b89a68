package broker

import (
	"longshore/api"
	"longshore/message"
	"longshore/route"
	"longshore/shape"
)

// ahead is the credit of a link on which we receive.
const ahead = 16

const highestPriority = 9

// intake is a link on which we receive: where what comes on it goes, as route says it.
type intake struct {
	kind int
	name string // the queue, or the topic
}

// hearDelivery takes what came on a link.
func (b *Broker) hearDelivery(at place, e api.Event) {
	in, is := b.intakes[at]
	if !is {
		return
	}
	said := b.take(at.conn, in, e.Delivery)
	if b.keep.down {
		return
	}
	end := b.ends[at.conn]
	if !e.Delivery.Settled {
		end.Settle(at.channel, at.handle, e.Delivery.Tag, said, true)
	}
	if b.states(at.conn, at.channel)[at].Credit <= ahead/2 {
		end.Credit(at.channel, at.handle, ahead, false)
	}
}

// take does what a delivery wants, and is what is said of it.
func (b *Broker) take(conn int, in intake, d api.Delivery) api.State {
	m, _, e := message.Decode(d.Data)
	switch {
	case in.kind == route.ToTxns:
		// What is no message, or has a body of another kind, has a Value that is no composite.
		return b.coordinate(conn, m.Value)
	case d.State.Kind == api.KTransactional:
		outcome := rejected("decode-error")
		if e == api.OK {
			outcome = b.enlist(conn, d.State.Txn, b.puts(in, m.Header, d.Data))
		}
		return api.State{Kind: api.KTransactional, Txn: d.State.Txn, Inner: []api.State{outcome}}
	case e != api.OK:
		return rejected("decode-error")
	}
	return b.lay(b.puts(in, m.Header, d.Data))
}

// puts are what lays a message into each queue that a link leads to now.
func (b *Broker) puts(in intake, h api.Header, data []byte) []api.Op {
	queues := []string{in.name}
	if in.kind == route.ToTopic {
		queues, _ = b.keep.store.Match(in.name)
	}
	var ops []api.Op
	for i, queue := range queues {
		ops = append(ops, api.Op{Kind: api.OpPut, Queue: queue, Entry: api.Entry{
			Seq:      b.keep.store.Next() + i,
			Priority: min(h.Priority, highestPriority),
			Expiry:   b.expiry(h.Ttl),
			Durable:  h.Durable,
			Count:    h.Count,
			Data:     data,
		}})
	}
	return ops
}

// expiry is when the time is over of a message that has so long; -1, if it has no end.
func (b *Broker) expiry(ttl int) int {
	if ttl < 0 {
		return -1
	}
	return min(b.time+ttl, api.MaxTime)
}

// lay lays a message into its queues: into all or none.
func (b *Broker) lay(puts []api.Op) api.State {
	if len(puts) > 0 && b.keep.apply(puts...) != api.OK {
		return rejected(noRoom)
	}
	return accepted()
}

// enlist lays a message into a transaction.
func (b *Broker) enlist(conn int, id string, puts []api.Op) api.State {
	for _, op := range puts {
		switch b.txns.Put(id, conn, op.Queue, op.Entry) {
		case api.OK:
		case api.ErrNoTxn, api.ErrNoQueue:
			return rejected(notFound)
		default:
			return rejected(noRoom)
		}
	}
	return accepted()
}

// coordinate does what the body of a message on a link for transactions says.
func (b *Broker) coordinate(conn int, body api.Value) api.State {
	switch r, _, _ := shape.Unpack(body); r.Kind { // 0 of what is no composite
	case api.KDeclare:
		return b.declare(conn)
	case api.KDischarge:
		id, fail := r.Fields[0], r.Fields[1]
		return b.discharge(conn, id.Text, fail.Num == 1)
	}
	return rejected(notImplemented)
}

func (b *Broker) declare(conn int) api.State {
	id, e := b.txns.Declare(conn)
	if e != api.OK {
		return rejected(noRoom)
	}
	return api.State{Kind: api.KDeclared, Txn: id}
}

func (b *Broker) discharge(conn int, id string, fail bool) api.State {
	switch b.keep.hear(b.txns.Discharge(id, conn, fail)) {
	case api.OK:
		return accepted()
	case api.ErrNoTxn:
		return rejected("unknown-id")
	}
	return rejected("transaction-rollback")
}

func accepted() api.State { return api.State{Kind: api.KAccepted} }

func rejected(cond string) api.State {
	return api.State{Kind: api.KRejected, Fault: api.Fault{Cond: cond}}
}
