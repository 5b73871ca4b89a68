package conn_test

import (
	"bytes"
	"fmt"
	"maps"
	"math/rand"
	"slices"
	"testing"

	"longshore/api"
	"longshore/conn"
	"longshore/sample"
)

// side is one of two ends, with what is known at it.
type side struct {
	name    string
	c       *conn.Conn
	other   *side
	inbox   []byte // bytes that are under way to it
	halves  []*half
	invited []api.Event // links of the peer's that may be answered
	closed  bool        // by somebody who used one of the two
}

// half is one Attach: one end's half of a link.
type half struct {
	id, peer            int // numbers of both halves, which their Attaches tell; peer 0: it is alone
	channel, handle     int
	receiver, rcvSecond bool
	gone                bool
	sent, got           int
	known               int                // the deliveries ahead of this one are known to the receiver
	unsettled           map[string]*parcel // by tags
	said                []remark           // what was said here of deliveries, and may not have come
	mode                int
}

// parcel is a delivery, as both ends know it.
type parcel struct {
	number  int
	settled map[string]bool // at the sides of these names
}

type remark struct {
	of      *parcel
	state   string
	settled bool
}

// pairOf is two ends whose bytes are under way by chance.
type pairOf struct {
	*rand.Rand
	t             *testing.T
	a, b          *side
	ids           int
	deliveries    int
	states        int
	alone         int // what was said and not told, as it was settled already
	crowded       bool
	crossed, many int
	early         int
}

func newPair(t *testing.T, r *rand.Rand, a, b api.ConnConfig) *pairOf {
	t.Helper()
	p := &pairOf{Rand: r, t: t, a: &side{name: "a", c: made(t, a)}, b: &side{name: "b", c: made(t, b)}}
	p.a.other, p.b.other = p.b, p.a
	wantErrno(t, "Open", p.a.c.Open(), api.OK)
	wantErrno(t, "Open", p.b.c.Open(), api.OK)
	return p
}

// mark is an Attach's number, in its Props; ofMark reads it.
func mark(id int) api.Value {
	return sample.Pairs(sample.Text(api.Symbol, "i"), sample.Num(api.Ulong, uint64(id)))
}

func ofMark(p api.Perform) int { return int(p.Props.List[1].Num) }

func (p *pairOf) fatal(s *side, what string, x ...any) {
	p.t.Helper()
	p.t.Fatalf("at %s: %s: %s", s.name, what, told(x))
}

// live are the halves of a side that are whole, and not gone.
func (s *side) live(fits func(h *half) bool) []*half {
	var l []*half
	for _, h := range s.halves {
		if !h.gone && h.peer != 0 && fits(h) {
			l = append(l, h)
		}
	}
	return l
}

func (s *side) find(channel, handle int) *half {
	for _, h := range s.halves {
		if !h.gone && h.channel == channel && h.handle == handle {
			return h
		}
	}
	return nil
}

// act does something by chance at a side. Errors don't matter: what is refused has not happened.
func (p *pairOf) act(s *side) {
	any := func(h *half) bool { return true }
	switch n := p.Intn(60); {
	case n < 2 && len(s.c.Channels()) < 2 && !p.crowded && s == p.a: // not both at one time
		s.c.Begin()
	case n < 3 && p.crowded:
		s.c.Begin()
	case n < 10:
		p.attach(s)
	case n < 22:
		for _, h := range s.live(func(h *half) bool { return h.receiver }) {
			s.c.Credit(h.channel, h.handle, p.Intn(5), p.Intn(5) == 0)
		}
	case n < 40:
		p.send(s, one(p, s.live(func(h *half) bool { return !h.receiver })))
	case n < 44:
		if h := one(p, s.live(any)); h != nil {
			s.c.Drained(h.channel, h.handle)
		}
	case n < 56:
		p.settle(s, one(p, s.live(func(h *half) bool { return len(h.unsettled) > 0 })))
	case n == 56 && p.Intn(2) == 0:
		if h := one(p, s.live(any)); h != nil && s.c.Detach(h.channel, h.handle, p.Intn(2) == 0, p.fault()) == api.OK {
			h.gone = true
		}
	case n == 57 && p.Intn(20) == 0:
		for _, channel := range s.c.Channels() {
			if p.Intn(2) == 0 && s.c.End(channel, p.fault()) == api.OK {
				p.ended(s, channel)
			}
		}
	case n == 58 && p.Intn(500) == 0:
		if s.c.Close(p.fault()) == api.OK {
			s.closed, s.other.closed = true, true
		}
	case n == 59:
		p.happen(s, s.c.Tick(p.Intn(900)))
	}
}

func one[T any](p *pairOf, l []*T) *T {
	if len(l) == 0 {
		return nil
	}
	return l[p.Intn(len(l))]
}

// fault is none, or one that nobody finds by itself.
func (p *pairOf) fault() api.Fault {
	return []api.Fault{{}, {Cond: "wanted", Text: "so", Info: nested(3)}}[p.Intn(2)]
}

// attach makes a link, or answers the peer's.
func (p *pairOf) attach(s *side) {
	q := attachOf([]string{"l", "m", "n"}[p.Intn(3)], 0, p.Intn(2) == 0)
	channel, peer := one(p, pointers(s.c.Channels())), 0
	if channel == nil {
		return
	}
	q.SndMode, q.RcvMode, q.InitialCount = p.Intn(3), p.Intn(2), []int{-1, 0, 1<<31 - 2, maxWord - 2, maxWord}[p.Intn(5)]
	if p.Intn(3) == 0 {
		q.MaxMessage = 200 + p.Intn(5000)
	}
	at := -1
	if len(s.invited) > 0 && p.Intn(4) > 0 {
		at = p.Intn(len(s.invited))
		e := s.invited[at]
		*channel, q.Name, q.Receiver = e.Channel, e.Perform.Name, !e.Perform.Receiver
	} else if slices.ContainsFunc(s.invited, func(e api.Event) bool {
		return e.Channel == *channel && e.Perform.Name == q.Name && e.Perform.Receiver != q.Receiver
	}) {
		return // it would be an answer
	}
	p.ids++
	q.Props = mark(p.ids)
	if at >= 0 {
		peer = ofMark(s.invited[at].Perform)
	}
	handle, e := s.c.Attach(*channel, q)
	if e != api.OK {
		return
	}
	h := &half{id: p.ids, peer: peer, channel: *channel, handle: handle, receiver: q.Receiver, rcvSecond: q.RcvMode == api.RcvSecond, mode: q.SndMode, unsettled: map[string]*parcel{}}
	if at >= 0 {
		if !q.Receiver {
			h.rcvSecond = s.invited[at].Perform.RcvMode == api.RcvSecond
		} else {
			h.mode = s.invited[at].Perform.SndMode
		}
		s.invited = slices.Delete(s.invited, at, at+1)
	}
	s.halves = append(s.halves, h)
}

func pointers(l []int) []*int {
	var out []*int
	for _, n := range l {
		out = append(out, &n)
	}
	return out
}

// dataOf is what is sent: whose it is, its number, and something behind it.
func dataOf(id, number, length int) []byte {
	return append(fmt.Appendf(nil, "%d %d %d ", id, number, length), filled(length)...)
}

func (p *pairOf) send(s *side, h *half) {
	if h == nil {
		return
	}
	tag := fmt.Sprint("t", p.Intn(5))
	settled := h.mode == api.SndSettled || h.mode == api.SndMixed && p.Intn(2) == 0
	length := p.Intn(20)
	if p.Intn(3) == 0 {
		length = p.Intn(5000)
	}
	if _, e := s.c.Send(h.channel, h.handle, tag, dataOf(h.id, h.sent, length), settled, api.State{}); e != api.OK {
		return
	}
	if !settled {
		h.unsettled[tag] = &parcel{number: h.sent, settled: map[string]bool{}}
	}
	h.sent++
}

func (p *pairOf) settle(s *side, h *half) {
	if h == nil {
		return
	}
	tag := fmt.Sprint("t", p.Intn(5))
	if p.Intn(4) > 0 {
		tag = slices.Sorted(maps.Keys(h.unsettled))[p.Intn(len(h.unsettled))]
	}
	state := []api.State{{}, accepted, {Kind: api.KModified, Failed: true, Ann: nested(4)}, {Kind: api.KReceived, Offset: p.Intn(99)}}[p.Intn(4)]
	settled := p.Intn(2) == 0
	e := s.c.Settle(h.channel, h.handle, tag, state, settled)
	if e == api.OK && h.receiver && h.unsettled[tag] == nil && h.known <= h.got {
		p.early++ // a delivery that is unfinished
		p.arrived(s, h, tag, h.got)
	}
	d := h.unsettled[tag]
	if (e == api.OK) != (d != nil && !(settled && h.receiver && h.rcvSecond)) {
		p.fatal(s, "Settle", e, h.channel, h.handle, tag, settled)
	}
	if e != api.OK {
		return
	}
	h.said = append(h.said, remark{d, told(state), settled})
	if settled {
		p.forget(s, h, tag)
	}
}

func (p *pairOf) forget(s *side, h *half, tag string) {
	h.unsettled[tag].settled[s.name] = true
	delete(h.unsettled, tag)
}

// ended is where all of a session is gone at a side.
func (p *pairOf) ended(s *side, channel int) {
	for _, h := range s.halves {
		if h.channel == channel {
			h.gone = true
		}
	}
	s.invited = slices.DeleteFunc(s.invited, func(e api.Event) bool { return e.Channel == channel })
}

// move brings some bytes to a side.
func (p *pairOf) move(s *side, n int) {
	s.inbox = append(s.inbox, s.other.c.Out()...)
	n = min(n, len(s.inbox))
	chunk := s.inbox[:n:n]
	s.inbox = s.inbox[n:]
	p.happen(s, s.c.Feed(chunk))
}

// happen holds what has happened against what was done at the other side.
func (p *pairOf) happen(s *side, l []api.Event) {
	p.t.Helper()
	for _, e := range l {
		h := s.find(e.Channel, e.Handle)
		switch e.Kind {
		case api.EvAttach:
			p.attached(s, h, e)
		case api.EvDelivery:
			p.delivered(s, h, e)
		case api.EvState:
			p.told(s, h, e)
		case api.EvDetach:
			p.wantWanted(s, e)
			if e.Handle == -1 {
				p.fatal(s, "a link that is not whole is detached", e)
			}
			h.gone = true
		case api.EvEnd:
			p.wantWanted(s, e)
			p.ended(s, e.Channel)
		case api.EvClose:
			if e.Fault.Cond == "resource-limit-exceeded" && p.crowded {
				p.many++
				s.closed, s.other.closed = true, true
			}
			if !s.closed {
				p.fatal(s, "it fails", e)
			}
			for _, h := range s.halves {
				h.gone = true
			}
			s.invited = nil
		}
	}
}

// wantWanted wants a fault that somebody wanted, or none.
func (p *pairOf) wantWanted(s *side, e api.Event) {
	p.t.Helper()
	if e.Fault.Cond != "" && e.Fault.Cond != "wanted" {
		p.fatal(s, "it fails", e)
	}
}

func (p *pairOf) attached(s *side, h *half, e api.Event) {
	if e.Handle == -1 {
		s.invited = append(s.invited, e)
		return
	}
	if h.peer != 0 {
		p.fatal(s, "attached twice", e)
	}
	h.peer = ofMark(e.Perform)
	if !h.receiver {
		h.rcvSecond = e.Perform.RcvMode == api.RcvSecond
	} else {
		h.mode = e.Perform.SndMode
	}
	for _, x := range s.other.halves {
		if x.id == h.peer && x.peer == 0 {
			p.crossed++ // the other one doesn't know yet that it is whole
		}
	}
}

// delivered wants that it is the next one of its link, byte for byte.
func (p *pairOf) delivered(s *side, h *half, e api.Event) {
	p.t.Helper()
	var id, number, length int
	fmt.Sscanf(string(e.Delivery.Data), "%d %d %d ", &id, &number, &length)
	if id != h.peer || number != h.got || !bytes.Equal(e.Delivery.Data, dataOf(id, number, length)) {
		p.fatal(s, "another delivery than the next one", h.peer, h.got, id, number)
	}
	h.got++
	p.deliveries++
	if !e.Delivery.Settled && number >= h.known {
		p.arrived(s, h, e.Delivery.Tag, number)
	}
}

// arrived is where a receiver knows of a delivery that is not settled. As the sender may have forgotten it already, its own is looked for by its number.
func (p *pairOf) arrived(s *side, h *half, tag string, number int) {
	from := s.other.byId(h.peer)
	d := from.unsettled[tag]
	if d == nil || d.number != number {
		d = &parcel{number: number, settled: map[string]bool{s.other.name: true}}
		for _, r := range from.said {
			if r.of.number == number {
				d = r.of
			}
		}
	}
	h.unsettled[tag], h.known = d, number+1
}

func (s *side) byId(id int) *half {
	for _, h := range s.halves {
		if h.id == id {
			return h
		}
	}
	return nil
}

// told wants that the other side has said so, next of all that concerns what is unsettled here.
func (p *pairOf) told(s *side, h *half, e api.Event) {
	p.t.Helper()
	p.states++
	d := h.unsettled[e.Delivery.Tag]
	from := s.other.byId(h.peer)
	for len(from.said) > 0 {
		r := from.said[0]
		from.said = from.said[1:]
		if r.of == d && r.state == told(e.State) && r.settled == e.Settled {
			if e.Settled {
				p.forget(s, h, e.Delivery.Tag)
			}
			return
		}
		if !r.of.settled[s.name] {
			p.fatal(s, "something that was said is not told", r.state, r.settled, r.of.number)
		}
		p.alone++
	}
	p.fatal(s, "something is told that was not said", e)
}

// settleDown brings all bytes over, until none are left.
func (p *pairOf) settleDown() {
	p.t.Helper()
	for range 100000 {
		p.move(p.a, 1+p.Intn(3000))
		p.move(p.b, 1+p.Intn(3000))
		p.a.inbox = append(p.a.inbox, p.b.c.Out()...)
		p.b.inbox = append(p.b.inbox, p.a.c.Out()...)
		if len(p.a.inbox)+len(p.b.inbox) == 0 {
			return
		}
	}
	p.t.Fatal("no end of bytes")
}

// wantAll wants that all that was sent on a link that is whole at both sides has come, and that both know the same of it.
func (p *pairOf) wantAll() {
	p.t.Helper()
	for _, s := range []*side{p.a, p.b} {
		for _, h := range s.live(func(h *half) bool { return !h.receiver }) {
			x := s.other.byId(h.peer)
			if x == nil || x.gone || x.peer != h.id {
				p.fatal(s, "the other side doesn't have the link", h.id, h.peer)
			}
			if x.got != h.sent {
				p.fatal(s, "not all has come", h.id, h.sent, x.got)
			}
			if len(h.unsettled) != len(x.unsettled) {
				p.fatal(s, "other deliveries are unsettled", len(h.unsettled), len(x.unsettled))
			}
			own, peer := see(s, h), see(s.other, x)
			if own.Count != peer.Count || own.Credit != peer.Credit || own.Unsettled != len(h.unsettled) || peer.Unsettled != len(x.unsettled) || own.Name != peer.Name || own.Receiver || !peer.Receiver {
				p.fatal(s, "the two ends don't agree", own, peer)
			}
		}
	}
}

func see(s *side, h *half) api.LinkState {
	return s.c.Links(h.channel)[slices.Index(s.c.Handles(h.channel), h.handle)]
}

// guardedBy is a client's and a server's configuration, guarded or not.
func guardedBy(r *rand.Rand) (api.ConnConfig, api.ConnConfig) {
	a, b := config(false), config(true)
	for _, c := range []*api.ConnConfig{&a, &b} {
		c.MaxFrame, c.ChannelMax, c.Window = []int{512, 600, 1024, 1 << 20}[r.Intn(4)], []int{0, 1, 3, 65535}[r.Intn(4)], []int{1, 2, 3, 4, 7, 65535}[r.Intn(6)]
		c.Idle = []int{0, 1000, maxWord}[r.Intn(3)]
	}
	if r.Intn(2) == 0 {
		u := api.User{Name: "ann", Secret: "x"}
		a.Guarded, a.Mech, a.User = true, []string{"open", "plain", "proof"}[r.Intn(3)], u
		b.Guarded, b.Users, b.Seed = true, []api.User{u}, r.Int()
	}
	return a, b
}

// P15.20 (and DOC.md's P0.3): whatever two ends do, their bytes in any pieces: nothing fails, each delivery comes once, in order, and what is said of it is told.
func TestBothEnds(t *testing.T) {
	deliveries, states, alone, crossed, many, closed, early := 0, 0, 0, 0, 0, 0, 0
	for seed := range int64(300) {
		r := rand.New(rand.NewSource(seed))
		a, b := guardedBy(r)
		p := newPair(t, r, a, b)
		p.crowded = seed%5 == 0
		for range 800 {
			s := []*side{p.a, p.b}[r.Intn(2)]
			if r.Intn(2) == 0 {
				p.act(s)
			} else {
				p.move(s, []int{0, 1, r.Intn(40), r.Intn(3000), 1 << 20}[r.Intn(5)])
			}
		}
		p.settleDown()
		if overA, _ := p.a.c.Over(); !p.a.closed {
			p.wantAll()
		} else if overB, _ := p.b.c.Over(); overA && overB {
			closed++
		} else {
			t.Fatalf("seed %d: one is over, the other one is not: %v, %v", seed, overA, overB)
		}
		deliveries, states, alone, crossed, many, early = deliveries+p.deliveries, states+p.states, alone+p.alone, crossed+p.crossed, many+p.many, early+p.early
	}
	if deliveries < 5000 || states < 4000 || alone < 100 || crossed < 20 || many < 3 || closed < 5 || early < 5 {
		t.Errorf("little was shown: %d deliveries, %d states, %d said alone, %d links that crossed, %d crowds, %d closed, %d settled early", deliveries, states, alone, crossed, many, closed, early)
	}
}
