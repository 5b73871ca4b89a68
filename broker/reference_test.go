package broker_test

import (
	"encoding/binary"
	"fmt"
	"slices"
	"strings"

	"longshore/api"
	"longshore/conn"
	"longshore/message"
	"longshore/perform"
	"longshore/route"
	"longshore/shape"
	"longshore/sieve"
	"longshore/store"
	"longshore/txn"
)

// model is a broker made another way: each connection has a list of its links of both kinds, which is gone over for all that is asked; the end is asked for a link's credit each time; bytes are fed in the greatest pieces that have no more than one item's end in them. What it meets is counted.
type model struct {
	s        *store.Store
	x        *txn.Txns
	now      int
	isDown   bool
	conns    []*mConn
	holders  int
	privates int
	met      map[string]int
}

var _ calls = (*model)(nil)

type mConn struct {
	n     int
	end   *conn.Conn
	links []*mLink
	head  []byte // the first bytes of the item that is under way, four at most
	came  int    // how many bytes of it have come
}

type mLink struct {
	channel, handle int
	way             string // "queue", "topic", "txns", or "out"
	name            string // a queue, a topic
	mine            bool   // the queue is the link's own
	filter          string
	copies, settled bool
	holder          int
	given           int // a link that copies: the greatest number so far
	tags            []string
	seqs            []int // 0: done with
}

func newModel(s *store.Store, met map[string]int) *model {
	return &model{s: s, x: txn.New(s), met: met}
}

func (m *model) note(what string) { m.met[what]++ }

func (m *model) find(n int) *mConn {
	for _, c := range m.conns {
		if c.n == n {
			return c
		}
	}
	return nil
}

func (m *model) Join(c api.ConnConfig) (int, api.Errno) {
	if !c.Server || conn.New(c) == nil {
		return 0, 1
	}
	if len(m.conns) >= maxConns {
		return 0, 232
	}
	n := 1
	for m.find(n) != nil {
		n++
	}
	x := &mConn{n: n, end: conn.New(c)}
	x.end.Tick(m.now)
	m.conns = append(m.conns, x)
	slices.SortFunc(m.conns, func(a, b *mConn) int { return a.n - b.n })
	return n, 0
}

func (m *model) Leave(n int) api.Errno {
	c := m.find(n)
	if c == nil {
		return 230
	}
	m.conns = slices.DeleteFunc(m.conns, func(x *mConn) bool { return x == c })
	m.endAll(c, func(l *mLink) bool { return true })
	m.x.Drop(n)
	if !m.isDown {
		m.serveAll()
	}
	return 0
}

func (m *model) Conns() []int {
	var l []int
	for _, c := range m.conns {
		l = append(l, c.n)
	}
	return l
}

func (m *model) Over(n int) (bool, api.Fault) {
	if c := m.find(n); c != nil {
		return c.end.Over()
	}
	return false, api.Fault{}
}

func (m *model) Out(n int) []byte {
	if c := m.find(n); c != nil && !m.isDown {
		return c.end.Out()
	}
	return nil
}

func (m *model) Feed(n int, chunk []byte) api.Errno {
	c := m.find(n)
	if c == nil {
		return 230
	}
	for len(chunk) > 0 && !m.isDown {
		k := c.piece(chunk)
		if l := c.end.Feed(chunk[:k]); len(l) > 0 {
			m.happens(c, l)
			if !m.isDown {
				m.serveAll()
			}
		}
		chunk = chunk[k:]
	}
	return m.downOr()
}

func (m *model) downOr() api.Errno {
	if m.isDown {
		return 3
	}
	return 0
}

// piece is how many bytes may be fed at once.
func (c *mConn) piece(chunk []byte) int {
	k := 1
	if len(c.head) == 4 {
		size := int(binary.BigEndian.Uint32(c.head))
		if string(c.head) == "LSHR" {
			size = 8
		}
		if size >= 8 && size <= maxFrame {
			k = min(len(chunk), size-c.came)
		}
		if c.came += k; c.came == size {
			c.head, c.came = nil, 0
		}
		return k
	}
	c.head = append(c.head, chunk[0])
	c.came++
	return k
}

func (m *model) Tick(now int) api.Errno {
	if m.isDown {
		return 3
	}
	if now > maxTime {
		now = maxTime
	}
	if now > m.now {
		m.now = now
	}
	m.call(func() api.Errno {
		n, e := m.s.Expire(m.now)
		if n > 0 {
			m.note("expired")
		}
		return e
	})
	for _, c := range m.conns {
		if !m.isDown {
			m.happens(c, c.end.Tick(m.now))
		}
	}
	if !m.isDown {
		m.serveAll()
	}
	return m.downOr()
}

// call calls the store, and twice where the log can be made short.
func (m *model) call(f func() api.Errno) api.Errno {
	e := f()
	if e == 190 {
		m.note("disk full")
		switch m.s.Compact() {
		case 0:
			m.note("made short")
			e = f()
		case 3:
			e = 3
		}
	}
	if e == 3 {
		m.isDown = true
		m.note("down")
	}
	return e
}

func (m *model) batch(ops ...api.Op) api.Errno {
	return m.call(func() api.Errno { _, e := m.s.Apply(ops); return e })
}

func (m *model) happens(c *mConn, l []api.Event) {
	for _, e := range l {
		if m.isDown {
			return
		}
		switch e.Kind {
		case 1:
			c.end.Open()
		case 3:
			if e.Handle == -1 && e.Perform.Receiver {
				m.attachesReceiver(c, e.Channel, e.Perform)
			} else if e.Handle == -1 {
				m.attachesSender(c, e.Channel, e.Perform)
			}
		case 5:
			m.comes(c, e)
		case 6:
			m.hears(c, e)
		case 7:
			m.endAll(c, func(l *mLink) bool { return l.channel == e.Channel && l.handle == e.Handle })
		case 8:
			m.endAll(c, func(l *mLink) bool { return l.channel == e.Channel })
		case 9:
			m.endAll(c, func(l *mLink) bool { return true })
			m.x.Drop(c.n)
			m.note("over")
		}
	}
}

func (m *model) endAll(c *mConn, which func(l *mLink) bool) {
	c.sort()
	for _, l := range slices.Clone(c.links) {
		if !which(l) {
			continue
		}
		c.links = slices.DeleteFunc(c.links, func(x *mLink) bool { return x == l })
		if l.way == "out" {
			m.note("link ends")
			m.call(func() api.Errno { return m.s.Release(l.holder) })
			if l.mine {
				m.batch(gone(l.name))
			}
		}
	}
}

func (c *mConn) sort() {
	slices.SortFunc(c.links, func(a, b *mLink) int { return (a.channel-b.channel)*1000 + a.handle - b.handle })
}

func (c *mConn) at(channel, handle int) *mLink {
	for _, l := range c.links {
		if l.channel == channel && l.handle == handle {
			return l
		}
	}
	return nil
}

func (m *model) refuses(c *mConn, channel int, p api.Perform, cond string) {
	m.note("refused " + cond)
	a := perform.Blank(api.KAttach)
	a.Name, a.SndMode, a.RcvMode = p.Name, p.SndMode, p.RcvMode
	if p.Receiver {
		a.InitialCount = 0
	} else {
		a.Receiver = true
	}
	h, e := c.end.Attach(channel, a)
	if e == 0 {
		c.end.Detach(channel, h, true, api.Fault{Cond: cond})
	}
}

func (m *model) hasQueue(name string) bool {
	for _, c := range m.s.Queues() {
		if c.Name == name {
			return true
		}
	}
	return false
}

func (m *model) attachesSender(c *mConn, channel int, p api.Perform) {
	l := &mLink{channel: channel}
	kind, name, e := route.Address(p.Target.Address)
	switch t := p.Target; {
	case t.Kind == api.KCoordinator:
		l.way = "txns"
	case t.Kind == 0, t.Dynamic:
		m.refuses(c, channel, p, "not-implemented")
		return
	case e != 0, kind == 2 && strings.Contains(name, "*"), kind == 2 && strings.Contains(name, "#"):
		m.refuses(c, channel, p, "invalid-field")
		return
	case kind == 1 && !m.hasQueue(name):
		m.refuses(c, channel, p, "not-found")
		return
	default:
		l.way, l.name = []string{"queue", "topic", "txns"}[kind-1], name
	}
	a := perform.Blank(api.KAttach)
	a.Name, a.SndMode, a.RcvMode, a.Receiver, a.Source, a.Target, a.MaxMessage = p.Name, p.SndMode, 0, true, p.Source, p.Target, maxMessage
	h, err := c.end.Attach(channel, a)
	if err != 0 {
		m.note("refused by the end")
		return
	}
	m.note("to " + l.way)
	l.handle = h
	c.links = append(c.links, l)
	c.end.Credit(channel, h, 16, false)
}

func (m *model) attachesReceiver(c *mConn, channel int, p api.Perform) {
	l := &mLink{channel: channel, way: "out", filter: p.Source.Filter, copies: p.Source.Mode == 1, settled: p.SndMode == 1}
	if p.Source.Kind == 0 {
		m.refuses(c, channel, p, "invalid-field")
		return
	}
	if l.filter != "" {
		if _, _, e := sieve.Parse(l.filter); e != 0 {
			m.refuses(c, channel, p, "invalid-field")
			return
		}
	}
	kind, name, e := route.Address(p.Source.Address)
	switch {
	case p.Source.Dynamic:
		if !m.makes(l, "tmp-%d", "") {
			m.refuses(c, channel, p, "resource-limit-exceeded")
			return
		}
		p.Source.Address = "queue/" + l.name
	case e != 0, kind == 3:
		m.refuses(c, channel, p, "invalid-field")
		return
	case kind == 2:
		if !m.makes(l, "sub-%d", name) {
			m.refuses(c, channel, p, "resource-limit-exceeded")
			return
		}
	case !m.hasQueue(name):
		m.refuses(c, channel, p, "not-found")
		return
	default:
		l.name = name
	}
	a := perform.Blank(api.KAttach)
	a.Name, a.RcvMode, a.Source, a.Target, a.SndMode, a.InitialCount = p.Name, p.RcvMode, p.Source, p.Target, 0, 0
	if l.settled {
		a.SndMode = 1
	}
	h, err := c.end.Attach(channel, a)
	if err != 0 {
		m.note("refused by the end")
		if l.mine {
			m.batch(gone(l.name))
		}
		return
	}
	m.holders++
	l.handle, l.holder = h, m.holders
	c.links = append(c.links, l)
	m.note(fmt.Sprintf("from a queue, its own %t, copies %t, settled %t, filter %t", l.mine, l.copies, l.settled, l.filter != ""))
}

func (m *model) makes(l *mLink, format, pattern string) bool {
	m.privates++
	l.mine, l.name = true, fmt.Sprintf(format, m.privates)
	ops := []api.Op{declare(passing(l.name, maxQueue))}
	if pattern != "" {
		ops = append(ops, bind(pattern, l.name))
	}
	return m.batch(ops...) == 0
}

func (m *model) comes(c *mConn, e api.Event) {
	l := c.at(e.Channel, e.Handle)
	if l == nil || l.way == "out" {
		panic("a delivery on no link")
	}
	var s api.State
	if l.way == "txns" {
		s = m.orders(c, e.Delivery.Data)
	} else {
		s = m.laid(c, l, e.Delivery)
		if d := e.Delivery.State; d.Kind == 52 {
			s = within(d.Txn, s)
		}
	}
	if m.isDown {
		return
	}
	m.note(fmt.Sprintf("to %s: %s", l.way, word(s)))
	if !e.Delivery.Settled {
		c.end.Settle(e.Channel, e.Handle, e.Delivery.Tag, s, true)
	}
	for i, h := range c.end.Handles(e.Channel) {
		if h == e.Handle && c.end.Links(e.Channel)[i].Credit <= 8 {
			c.end.Credit(e.Channel, e.Handle, 16, false)
		}
	}
}

func (m *model) laid(c *mConn, l *mLink, d api.Delivery) api.State {
	x, _, e := message.Decode(d.Data)
	if e != 0 {
		return rejected("decode-error")
	}
	y := api.Entry{Priority: x.Header.Priority, Durable: x.Header.Durable, Count: x.Header.Count, Expiry: -1, Data: d.Data}
	if y.Priority > 9 {
		y.Priority = 9
	}
	if x.Header.Ttl >= 0 {
		y.Expiry = min(maxTime, m.now+x.Header.Ttl)
	}
	queues := []string{l.name}
	if l.way == "topic" {
		queues, _ = m.s.Match(l.name)
		m.note(fmt.Sprint("a topic of ", min(2, len(queues))))
	}
	var ops []api.Op
	for _, q := range queues {
		y.Seq = m.s.Next() + len(ops)
		ops = append(ops, put(q, y))
		if d.State.Kind != 52 {
			continue
		}
		switch m.x.Put(d.State.Txn, c.n, q, y) {
		case 0:
		case 220, 210:
			return rejected("not-found")
		default:
			return rejected("resource-limit-exceeded")
		}
	}
	if d.State.Kind != 52 && len(ops) > 0 && m.batch(ops...) != 0 {
		return rejected("resource-limit-exceeded")
	}
	return accepted
}

func (m *model) orders(c *mConn, data []byte) api.State {
	x, _, e := message.Decode(data)
	if e != 0 || x.Body != 3 {
		return rejected("not-implemented")
	}
	r, _, e := shape.Unpack(x.Value)
	if e == 0 && r.Kind == 49 {
		id, e := m.x.Declare(c.n)
		if e != 0 {
			return rejected("resource-limit-exceeded")
		}
		return declared(id)
	}
	if e != 0 || r.Kind != 50 {
		return rejected("not-implemented")
	}
	switch e := m.x.Discharge(r.Fields[0].Text, c.n, r.Fields[1].Num != 0); e {
	case 0:
		return accepted
	case 220:
		return rejected("unknown-id")
	case 3:
		m.isDown = true
		m.note("down")
		fallthrough
	default:
		return rejected("transaction-rollback")
	}
}

func (m *model) hears(c *mConn, e api.Event) {
	l := c.at(e.Channel, e.Handle)
	if l == nil || l.way != "out" {
		return
	}
	at := slices.Index(l.tags, e.Delivery.Tag)
	if at < 0 || l.seqs[at] == 0 {
		m.note("said of what is done with")
		return
	}
	s := e.State
	isOutcome := func(k int) bool { return k >= 36 && k <= 39 }
	inTxn := s.Kind == 52 && len(s.Inner) == 1
	if !isOutcome(s.Kind) && !inTxn && !e.Settled {
		m.note("no outcome")
		return
	}
	seq := l.seqs[at]
	l.seqs[at] = 0
	if !l.copies {
		o := s
		if inTxn {
			o = failed
			if m.x.Done(s.Txn, c.n, l.name, seq, l.holder, s.Inner[0]) == 0 {
				o = none
				m.note("done in a transaction")
			}
		} else if !isOutcome(s.Kind) {
			o = released
		}
		m.note(fmt.Sprintf("outcome %d %t settled %t", o.Kind, o.Failed, e.Settled))
		switch o.Kind {
		case 36:
			m.batch(remove(l.name, seq))
		case 37:
			m.call(func() api.Errno { return m.s.Bury(l.name, seq, l.holder) })
		case 38, 39:
			m.call(func() api.Errno { return m.s.Back(l.name, seq, l.holder, o.Kind == 39 && o.Failed) })
		}
	}
	if !m.isDown && !e.Settled {
		c.end.Settle(e.Channel, e.Handle, e.Delivery.Tag, s, true)
	}
}

// word is what is said of a delivery, in short.
func word(s api.State) string {
	switch s.Kind {
	case 36:
		return "accepted"
	case 37:
		return s.Fault.Cond
	case 51:
		return "declared"
	}
	return "within, " + word(s.Inner[0])
}

// credit asks the end.
func (c *mConn) credit(l *mLink) int {
	for i, h := range c.end.Handles(l.channel) {
		if h == l.handle {
			return c.end.Links(l.channel)[i].Credit
		}
	}
	panic("a link is not whole")
}

func (m *model) serveAll() {
	below := m.s.Next()
	for some := true; some; {
		some = false
		for _, c := range m.conns {
			c.sort()
			for _, l := range c.links {
				if !m.isDown && l.way == "out" && c.credit(l) > 0 && m.gives(c, l, below) {
					some = true
				}
			}
		}
	}
	for _, c := range m.conns {
		for _, l := range c.links {
			if l.way != "out" || m.isDown {
				continue
			}
			if drained, _ := c.end.Drained(l.channel, l.handle); drained {
				m.note("drained")
			}
		}
	}
}

func (m *model) gives(c *mConn, l *mLink, below int) bool {
	fits := func(e api.Entry) bool {
		if e.Seq >= below || l.filter == "" {
			return e.Seq < below
		}
		x, _, err := message.Decode(e.Data)
		t, _, _ := sieve.Parse(l.filter)
		return err == 0 && sieve.Fits(t, x)
	}
	var e api.Entry
	var is bool
	if l.copies {
		e, is = m.s.Peek(l.name, l.given, fits)
	} else {
		e, is = m.s.Take(l.name, l.holder, fits)
	}
	if !is {
		return false
	}
	l.given = e.Seq
	data, err := message.Again(e.Data, e.Count)
	if err != 0 {
		data = e.Data
	}
	tag := numbered(len(l.tags))
	_, err = c.end.Send(l.channel, l.handle, tag, data, l.settled, none)
	if err != 0 {
		m.note(fmt.Sprint("not sent ", err))
		if !l.copies {
			m.call(func() api.Errno { return m.s.Bury(l.name, e.Seq, l.holder) })
		}
		return true
	}
	m.note(fmt.Sprintf("sent, copied %t, settled %t", l.copies, l.settled))
	seq := e.Seq
	if l.settled {
		seq = 0
		if !l.copies {
			m.batch(remove(l.name, e.Seq))
		}
	}
	l.tags, l.seqs = append(l.tags, tag), append(l.seqs, seq)
	return true
}
