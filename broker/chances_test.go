package broker_test

import (
	"fmt"
	"math/rand"
	"slices"
	"strings"

	"longshore/api"
	"longshore/conn"
	"longshore/disk"
	"longshore/sample"
	"longshore/store"
)

// chance is a broker's peers, which do this and that by chance. What is done to the broker comes as steps, so that it can be done to several.
type chance struct {
	*rand.Rand
	peers    []*end
	now      int
	messages int
	wild     bool // now and then they do what may not be
}

// end is a peer's end.
type end struct {
	n      int
	c      *conn.Conn
	out    []byte         // bytes that are under way to the broker
	got    []got          // deliveries that were not settled
	txns   []string       // transactions of which it was told
	orders map[[2]int]int // by channel and handle, 1 for the links for transactions
}

// got is a delivery that came to a peer.
type got struct {
	channel, handle int
	tag             string
	data            []byte
}

// stage is what a step is done to: a broker, or what is to be as one, its store and its disk.
type stage struct {
	d *disk.Disk
	s *store.Store
	b calls
}

// step is something that is done to a stage: what is answered, as text.
type step struct {
	name string
	do   func(x stage) string
}

func anyOf[T any](r *rand.Rand, l ...T) T { return l[r.Intn(len(l))] }

func (w *chance) one(l []*end) *end {
	if len(l) == 0 {
		return nil
	}
	return l[w.Intn(len(l))]
}

// first are the steps by which a stage is filled.
func (w *chance) first() []step {
	var ops []api.Op
	for i, name := range []string{"a", "b", "c"} {
		c := api.QueueConfig{Name: name, Most: 1 + w.Intn(9), Dead: anyOf(w.Rand, "", "", "b", "c", "none"), Tries: w.Intn(4), Durable: w.Intn(3) > 0}
		if c.Dead == name {
			c.Dead = ""
		}
		ops = append(ops, declare(c))
		if i == 2 {
			ops = append(ops, bind("t.*", "a"), bind("t.#", "b"), bind("u", "c"))
		}
	}
	return []step{w.apply(ops...)}
}

func (w *chance) apply(ops ...api.Op) step {
	return step{fmt.Sprintf("Apply of %d", len(ops)), func(x stage) string {
		n, e := x.s.Apply(ops)
		return fmt.Sprint(n, e)
	}}
}

// next is something that is done by chance.
func (w *chance) next() step {
	switch n := w.Intn(100); {
	case n < 1 || len(w.peers) < 2:
		return w.join()
	case n < 2 && w.Intn(2) == 0:
		return w.leave()
	case n < 6:
		return w.tick()
	case n < 7 && w.Intn(4) == 0:
		return w.declare()
	case n < 8 && w.wild && w.Intn(8) == 0:
		return w.arm()
	case n < 9 && w.wild && w.Intn(6) == 0:
		return w.garbage()
	}
	p := w.one(w.peers)
	for range w.Intn(4) {
		w.act(p)
	}
	return w.feed(p)
}

func (w *chance) join() step {
	own := api.ConnConfig{Id: "g", Server: true, MaxFrame: anyOf(w.Rand, 512, 600, 2000), ChannelMax: anyOf(w.Rand, 0, 1, 3), Window: anyOf(w.Rand, 1, 2, 5, 100), Idle: anyOf(w.Rand, 0, 0, 0, 500)}
	other := api.ConnConfig{Id: "c", MaxFrame: anyOf(w.Rand, 512, 700, 2000), ChannelMax: anyOf(w.Rand, 0, 1, 3), Window: anyOf(w.Rand, 1, 2, 5, 100), Idle: anyOf(w.Rand, 0, 0, 300)}
	if w.Intn(4) == 0 {
		u := api.User{Name: "ann", Secret: "x"}
		own.Guarded, own.Users, own.Seed = true, []api.User{u}, w.Int()
		other.Guarded, other.Mech, other.User = true, anyOf(w.Rand, "open", "plain", "proof"), u
		if w.wild && w.Intn(4) == 0 {
			other.User.Secret = "y"
		}
	}
	if w.wild && w.Intn(20) == 0 {
		own.Window = 0
	}
	p := &end{orders: map[[2]int]int{}}
	return step{"Join", func(x stage) string {
		n, e := x.b.Join(own)
		if e == api.OK && p.c == nil {
			p.n, p.c = n, conn.New(other)
			p.c.Tick(w.now)
			p.c.Open()
			w.peers = append(w.peers, p)
		}
		return fmt.Sprint(n, e)
	}}
}

func (w *chance) leave() step {
	p := w.one(w.peers)
	w.peers = slices.DeleteFunc(w.peers, func(q *end) bool { return p == q })
	return step{fmt.Sprint("Leave ", p.n), func(x stage) string { return fmt.Sprint(x.b.Leave(p.n)) }}
}

func (w *chance) tick() step {
	now := w.now + w.Intn(100)
	if w.Intn(9) == 0 {
		now = anyOf(w.Rand, 0, -5, w.now-1)
	}
	w.now = max(w.now, now)
	for _, p := range w.peers {
		p.happens(p.c.Tick(w.now))
	}
	return step{fmt.Sprint("Tick ", now), func(x stage) string { return fmt.Sprint(x.b.Tick(now)) }}
}

// declare makes a queue, or lets one go, behind the broker's back.
func (w *chance) declare() step {
	name := anyOf(w.Rand, "a", "b", "c", fmt.Sprint("tmp-", 1+w.Intn(9)), fmt.Sprint("sub-", 1+w.Intn(9)))
	if w.Intn(3) == 0 {
		return w.apply(gone(name))
	}
	return w.apply(declare(api.QueueConfig{Name: name, Most: 5, Durable: w.Intn(2) == 0}))
}

func (w *chance) arm() step {
	acts, keep := w.Intn(6), w.Intn(40)
	return step{"Arm", func(x stage) string {
		x.d.Arm(acts, keep)
		return ""
	}}
}

func (w *chance) garbage() step {
	p := w.one(w.peers)
	p.out = append(p.out, anyOf(w.Rand, "LSHR\x00\x01\x00\x00", "\x00\x00\x00\x07", "\xff\xff\xff\xff", "\x00\x00\x00\x08\x02\x01\x00\x00", "\x00\x00\x00\x0a\x02\x00\x00\x00\x00\x53", "x")...)
	return w.feed(p)
}

// feed brings some bytes of a peer's to the broker.
func (w *chance) feed(p *end) step {
	p.out = append(p.out, p.c.Out()...)
	n := min(len(p.out), anyOf(w.Rand, 0, 1, 60, 1<<30, 1<<30, 1<<30, 1<<30))
	chunk := p.out[:n:n]
	p.out = p.out[n:]
	return step{fmt.Sprintf("Feed %d of %d bytes", p.n, n), func(x stage) string { return fmt.Sprint(x.b.Feed(p.n, chunk)) }}
}

// hears brings a peer what went out.
func (w *chance) hears(n int, b []byte) {
	for _, p := range w.peers {
		if p.n == n {
			p.happens(p.c.Feed(b))
		}
	}
}

func (p *end) happens(l []api.Event) {
	for _, e := range l {
		switch {
		case e.Kind == api.EvDelivery && !e.Delivery.Settled:
			p.got = append(p.got, got{e.Channel, e.Handle, e.Delivery.Tag, e.Delivery.Data})
		case e.Kind == api.EvState && e.State.Kind == api.KDeclared:
			p.txns = append(p.txns, e.State.Txn)
		}
	}
}

// txn is the name of a transaction: one of the peer's own, or any other one.
func (w *chance) txn(p *end) string {
	if n := len(p.txns); n > 0 && w.Intn(8) > 0 {
		return p.txns[max(0, n-1-w.Intn(2))]
	}
	return fmt.Sprint("t", 1+w.Intn(20))
}

// act lets a peer do something. What its end refuses has not happened.
func (w *chance) act(p *end) {
	channels := p.c.Channels()
	if len(channels) == 0 || w.Intn(60) == 0 {
		p.c.Begin()
		return
	}
	channel := channels[w.Intn(len(channels))]
	handles, links := p.c.Handles(channel), p.c.Links(channel)
	switch n := w.Intn(100); {
	case n < 8 && len(handles) < 8 || len(handles) == 0:
		w.attach(p, channel)
	case n < 12:
		p.c.Detach(channel, handles[w.Intn(len(handles))], w.Intn(2) == 0, api.Fault{})
	case n == 13 && w.Intn(3) == 0:
		p.c.End(channel, api.Fault{})
	case n == 14 && w.Intn(6) == 0:
		p.c.Close(api.Fault{})
	case n < 45 && len(p.got) > 0:
		w.settle(p)
	default:
		at := w.Intn(len(handles))
		if links[at].Receiver {
			p.c.Credit(channel, handles[at], 1+w.Intn(5), w.Intn(4) == 0)
		} else {
			w.send(p, channel, handles[at])
		}
	}
}

func (w *chance) attach(p *end, channel int) {
	address := anyOf(w.Rand, "queue/a", "queue/a", "queue/b", "queue/c", "topic/t.x", "topic/u", "txns", "txns")
	if w.Intn(4) == 0 {
		address = anyOf(w.Rand, "topic/none", "queue/none", "topic/t.*", "topic/#", "queue/tmp-1", "queue/sub-2", "nowhere", "")
	}
	a := sends(fmt.Sprint("l", w.Intn(6)), address)
	if w.Intn(2) == 0 {
		a = receives(a.Name, strings.Replace(address, "txns", "queue/a", 1))
		a.Source.Filter = anyOf(w.Rand, "", "", "", "priority > 4", "colour = 'red'")
		if w.Intn(20) == 0 {
			a.Source.Filter = "n >"
		}
		a.Source.Mode = anyOf(w.Rand, 0, 0, 1)
		a.Source.Dynamic = w.Intn(9) == 0
		a.MaxMessage = anyOf(w.Rand, 0, 0, 0, 40)
	} else if w.Intn(8) == 0 {
		a.Target = anyOf(w.Rand, api.Terminus{}, api.Terminus{Kind: api.KCoordinator}, api.Terminus{Kind: api.KTarget, Dynamic: true})
	}
	if w.Intn(12) == 0 {
		a.Target.Caps = slices.Repeat([]string{strings.Repeat("x", 50)}, 12)
		a.Target.Kind = max(a.Target.Kind, api.KTarget)
	}
	a.SndMode, a.RcvMode = anyOf(w.Rand, 2, 2, 0, 1), w.Intn(4)/3
	if h, e := p.c.Attach(channel, a); e == api.OK {
		orders := 0
		if !a.Receiver && (address == "txns" || a.Target.Kind == api.KCoordinator) {
			orders = 1
		}
		p.orders[[2]int{channel, h}] = orders
	}
}

func (w *chance) send(p *end, channel, handle int) {
	w.messages++
	s, data := none, w.message()
	switch {
	case w.Intn(12) == 0:
		data = anyOf(w.Rand, noMessages()...)
	case p.orders[[2]int{channel, handle}] == 0:
	case w.Intn(2) == 0:
		data = declaring()
	default:
		data = discharging(w.txn(p), w.Intn(4) == 0)
	}
	if w.Intn(3) == 0 {
		s = anyOf(w.Rand, received, within(w.txn(p)), within(w.txn(p)), within(w.txn(p)))
	}
	p.c.Send(channel, handle, fmt.Sprint("t", w.messages), data, w.Intn(4) == 0, s)
}

func (w *chance) message() []byte {
	return text(fmt.Sprint("m", w.messages, strings.Repeat("x", anyOf(w.Rand, 0, 0, 0, 50, 900))), w.Intn(12), func(m *api.Message) {
		m.Header.Durable, m.Header.Ttl, m.Header.Count = w.Intn(2) == 0, anyOf(w.Rand, -1, -1, -1, 0, 100, 500), anyOf(w.Rand, 0, 0, 0, 2)
	}, coloured(anyOf(w.Rand, "red", "blue")))
}

// settle says something of a delivery that came, of several at once, or of one that is unknown.
func (w *chance) settle(p *end) {
	at := w.Intn(len(p.got))
	g := p.got[at]
	inner := within(w.txn(p), anyOf(w.Rand, accepted, rejected("no"), released, modified, failed))
	s := anyOf(w.Rand, received, accepted, accepted, accepted, rejected("no"), released, modified, failed, failed, inner, inner, inner, within("t1"))
	if w.Intn(15) == 0 {
		s = api.State{Kind: api.KModified, Ann: sample.Pairs(sample.Text(api.Symbol, "k"), sample.Text(api.Binary, strings.Repeat("x", 500)))}
	}
	settled := w.Intn(2) == 0
	if settled && w.Intn(9) == 0 {
		s = none
	}
	if p.c.Settle(g.channel, g.handle, g.tag, s, settled) != api.OK || settled {
		p.got = slices.Delete(p.got, at, at+1)
	}
}
