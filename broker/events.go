package broker

import (
	"cmp"
	"maps"
	"slices"

	"longshore/api"
)

// place is where a link is: its connection, and our channel and handle there.
type place struct{ conn, channel, handle int }

func inOrder(a, b place) int {
	return cmp.Or(cmp.Compare(a.conn, b.conn), cmp.Compare(a.channel, b.channel), cmp.Compare(a.handle, b.handle))
}

// deed is what is done when something of a kind has happened.
type deed struct {
	kind int
	do   func(b *Broker, at place, e api.Event)
}

func deeds() []deed {
	return []deed{
		{api.EvOpen, (*Broker).open},
		{api.EvAttach, (*Broker).attach},
		{api.EvDelivery, (*Broker).hearDelivery},
		{api.EvState, (*Broker).hearState},
		{api.EvDetach, (*Broker).detach},
		{api.EvEnd, (*Broker).end},
		{api.EvClose, (*Broker).close},
	}
}

// happen does what is to be done with what has happened at a connection's end, until the store is down.
func (b *Broker) happen(conn int, events []api.Event) {
	for _, e := range events {
		for _, d := range deeds() {
			if d.kind == e.Kind && !b.keep.down {
				d.do(b, place{conn, e.Channel, e.Handle}, e)
			}
		}
	}
}

func (b *Broker) open(at place, _ api.Event) { b.ends[at.conn].Open() }

func (b *Broker) detach(at place, _ api.Event) {
	b.endLinks(func(link place) bool { return link == at })
}

func (b *Broker) end(at place, _ api.Event) {
	b.endLinks(func(link place) bool { return link.conn == at.conn && link.channel == at.channel })
}

func (b *Broker) close(at place, _ api.Event) { b.letGo(at.conn) }

// letGo is where a connection is over, or has left.
func (b *Broker) letGo(conn int) {
	b.endLinks(func(link place) bool { return link.conn == conn })
	b.txns.Drop(conn)
}

// endLinks ends the links of which are says so.
func (b *Broker) endLinks(are func(link place) bool) {
	for _, at := range slices.SortedFunc(maps.Keys(b.outlets), inOrder) {
		if are(at) {
			o := b.outlets[at]
			delete(b.outlets, at)
			b.keep.release(o.holder)
			b.giveUp(o)
		}
	}
	maps.DeleteFunc(b.intakes, func(at place, _ intake) bool { return are(at) })
}

// states are how the whole links of a session stand, by their places.
func (b *Broker) states(conn, channel int) map[place]api.LinkState {
	end := b.ends[conn]
	links := end.Links(channel)
	all := map[place]api.LinkState{}
	for i, handle := range end.Handles(channel) {
		all[place{conn, channel, handle}] = links[i]
	}
	return all
}
