package conn_test

import (
	"bytes"
	"slices"

	"longshore/api"
	"longshore/carve"
	"longshore/frame"
	"longshore/guard"
	"longshore/link"
	"longshore/perform"
	"longshore/session"
	"longshore/stream"
)

// calls are what an end can be asked.
type calls interface {
	asked
	Feed(chunk []byte) []api.Event
	Tick(now int) []api.Event
	Out() []byte
	Open() api.Errno
	Close(f api.Fault) api.Errno
	Begin() (int, api.Errno)
	End(channel int, f api.Fault) api.Errno
	Attach(channel int, p api.Perform) (int, api.Errno)
	Detach(channel, handle int, closed bool, f api.Fault) api.Errno
	Credit(channel, handle, credit int, drain bool) api.Errno
	Send(channel, handle int, tag string, data []byte, settled bool, s api.State) (int, api.Errno)
	Drained(channel, handle int) (bool, api.Errno)
	Settle(channel, handle int, tag string, s api.State, settled bool) api.Errno
}

// model is a second way to what the chapter says: all sessions and all links that ever were stand in two lists, which are looked through from the first one on each time; bytes come one by one.
type model struct {
	cfg      api.ConnConfig
	in       *stream.Stream
	gs       *guard.Server
	gc       *guard.Client
	letIn    bool
	bodies   int // of guard frames, so far
	written  []byte
	happened []api.Event

	wasOpened                      bool // by Open
	mainHeader, openOut, closeOut  bool
	peer                           *api.Perform // its Open
	isOver                         bool
	why                            api.Fault
	now, lastByte, openAt, lastOut int

	sessions []*mSession
	links    []*mLink
}

type mSession struct {
	channel, remote int // remote -1: not answered
	byUs, gone      bool
	s               *session.Session
	waits           []mWait
}

// mWait is something that waits: it is written by write, if it may be.
type mWait struct {
	link     *mLink
	transfer bool
	write    func()
}

type mLink struct {
	of             *mSession
	name           string
	receiver       bool // we are
	own, peer      *api.Perform
	handle, remote int // -1: not attached
	detached, gone bool
	l              *link.Link
	j              *carve.Joiner
	pending        []api.Pending // unsettled
	unfinished     string        // its tag
}

func newModel(c api.ConnConfig) *model {
	name := func(s string, least int) bool {
		return len(s) >= least && len(s) <= 64 && bytes.Equal([]byte(s), bytes.ToValidUTF8([]byte(s), []byte("?!")))
	}
	if !name(c.Id, 1) || !name(c.Host, 0) || c.MaxFrame < 512 || c.MaxFrame > 1<<20 || c.ChannelMax < 0 || c.ChannelMax > 65535 || c.Idle < 0 || c.Idle > maxWord || c.Window < 1 || c.Window > 65535 {
		return nil
	}
	m := &model{cfg: c, in: stream.New(c.MaxFrame)}
	if c.Guarded && c.Server {
		if m.gs = guard.NewServer(c.Users, c.Seed); m.gs == nil {
			return nil
		}
	}
	if c.Guarded && !c.Server {
		if m.gc = guard.NewClient(c.Mech, c.User); m.gc == nil {
			return nil
		}
	}
	return m
}

// What is written.

func (m *model) put(b []byte) {
	m.written = append(m.written, b...)
	m.lastOut = m.now
}

func (m *model) header(proto int) {
	b, _ := frame.Header(proto)
	m.put(b)
	if proto == 0 {
		m.mainHeader = true
	}
}

func (m *model) size() int {
	if m.peer == nil {
		return 512
	}
	if m.peer.MaxFrame > 1<<20 {
		return 1 << 20
	}
	return m.peer.MaxFrame
}

func (m *model) bytesOf(channel int, p api.Perform) ([]byte, bool) {
	body, e := perform.Write(p)
	if e != api.OK {
		return nil, false
	}
	b, e := frame.Seal(api.Frame{Channel: channel, Body: body})
	return b, e == api.OK && len(b) <= m.size()
}

func (m *model) putPerform(channel int, p api.Perform) {
	if p.Kind != api.KOpen {
		m.putOpen()
	}
	b, ok := m.bytesOf(channel, p)
	if !ok {
		panic("a frame that can't be written")
	}
	m.put(b)
}

func (m *model) putOpen() {
	if m.openOut {
		return
	}
	m.openOut, m.openAt = true, m.now
	idle := m.cfg.Idle
	if idle == 0 {
		idle = -1
	}
	m.putPerform(0, api.Perform{Kind: api.KOpen, Id: m.cfg.Id, Host: m.cfg.Host, MaxFrame: m.cfg.MaxFrame, ChannelMax: m.cfg.ChannelMax, Idle: idle})
}

func (m *model) putClose(f api.Fault) {
	m.putOpen()
	if !m.closeOut {
		m.putPerform(0, closeOf(f))
		m.closeOut = true
	}
}

func (m *model) fails(cond string) {
	if m.mainHeader {
		m.putClose(faultOf(cond))
	}
	m.isNowOver(faultOf(cond))
}

func (m *model) isNowOver(f api.Fault) {
	m.isOver, m.why = true, f
	m.sessions, m.links = nil, nil
	m.happened = append(m.happened, evClose(f))
}

func (m *model) Out() []byte {
	b := m.written
	m.written = nil
	return b
}

// The connection.

func (m *model) Open() api.Errno {
	if m.isOver {
		return api.ErrClosed
	}
	if m.wasOpened {
		return api.ErrState
	}
	m.wasOpened = true
	if m.openOut {
		return api.OK
	}
	if m.cfg.Server {
		if m.mainHeader {
			m.putOpen()
		}
		return api.OK
	}
	if m.cfg.Guarded {
		m.header(3)
		return api.OK
	}
	m.header(0)
	m.putOpen()
	return api.OK
}

func (m *model) Close(f api.Fault) api.Errno {
	if m.isOver || m.closeOut {
		return api.ErrClosed
	}
	if !m.openOut {
		return api.ErrState
	}
	p, e := m.withFault(api.Perform{Kind: api.KClose}, 0, f)
	if e == api.OK {
		m.putPerform(0, p)
		m.closeOut = true
	}
	return e
}

// withFault is a performative with a fault that was handed in.
func (m *model) withFault(p api.Perform, channel int, f api.Fault) (api.Perform, api.Errno) {
	if f.Cond != "" {
		p.Fault = f
	}
	if e := perform.Check(p); e != api.OK {
		return p, e
	}
	if _, ok := m.bytesOf(channel, p); !ok {
		return p, api.ErrLong
	}
	return p, api.OK
}

func (m *model) Up() bool { return m.peer != nil && m.openOut && !m.closeOut && !m.isOver }

func (m *model) Over() (bool, api.Fault) { return m.isOver, m.why }

func (m *model) flush() []api.Event {
	l := m.happened
	m.happened = nil
	return l
}

func (m *model) Tick(now int) []api.Event {
	if now > maxTime {
		now = maxTime
	}
	if now > m.now {
		m.now = now
	}
	if m.isOver {
		return nil
	}
	heard := max(m.lastByte, m.openAt)
	if m.cfg.Idle > 0 && m.openOut && m.now >= heard+2*m.cfg.Idle {
		m.fails("idle-timeout")
	} else if m.peer != nil && m.peer.Idle > 0 && m.openOut && m.now >= m.lastOut+m.peer.Idle/2 {
		m.put(alive)
	}
	return m.flush()
}

// The peer's bytes.

func (m *model) Feed(chunk []byte) []api.Event {
	for _, b := range chunk {
		if m.isOver {
			break
		}
		m.lastByte = m.now
		if !m.cfg.Server && !m.wasOpened {
			m.isNowOver(faultOf("illegal-state"))
			break
		}
		item, _ := m.in.Take([]byte{b})
		switch {
		case m.in.State().Err != api.OK:
			m.fails("framing-error")
		case item.Kind == api.ItemProto:
			m.onHeader(item.Proto)
		case item.Kind == api.ItemFrame && item.Frame.Type == api.FrameGuard:
			m.onGuard(item.Frame.Body)
		case item.Kind == api.ItemFrame:
			m.onMain(item.Frame.Channel, item.Frame.Body)
		}
	}
	return m.flush()
}

func (m *model) onHeader(proto int) {
	awaited := 0
	if m.cfg.Guarded && !m.letIn {
		awaited = 3
	}
	switch {
	case proto != awaited && m.cfg.Server:
		m.header(awaited)
		m.isNowOver(faultOf("not-allowed"))
	case proto != awaited:
		m.isNowOver(faultOf("not-allowed"))
	case m.cfg.Server && proto == 3:
		m.header(3)
		m.put(guarded(m.gs.Hello()))
	case m.cfg.Server:
		m.header(0)
		if m.wasOpened {
			m.putOpen()
		}
	}
}

func (m *model) onGuard(body []byte) {
	m.bodies++
	if m.cfg.Server {
		b, e := m.gs.On(body)
		done, who := m.gs.Done()
		m.behindGuard(b, e, done, who != "", who)
	} else {
		b, e := m.gc.On(body)
		done, in := m.gc.Done()
		m.behindGuard(b, e, done, in, "")
	}
}

func (m *model) behindGuard(b []byte, e api.Errno, done, in bool, who string) {
	if e != api.OK {
		m.isNowOver(faultOf("unauthorized"))
		return
	}
	if len(b) > 0 {
		m.put(guarded(b))
	}
	if !done {
		return
	}
	if !in {
		m.isNowOver(faultOf("unauthorized"))
		return
	}
	m.letIn = true
	m.in.Expect()
	if m.cfg.Server {
		m.happened = append(m.happened, api.Event{Kind: api.EvUser, User: who})
	} else {
		m.header(0)
		m.putOpen()
	}
}

func (m *model) onMain(x int, body []byte) {
	if len(body) == 0 {
		return
	}
	p, at, e := perform.Read(body)
	if m.closeOut {
		if e == api.OK && p.Kind == api.KClose && x == 0 {
			m.isNowOver(p.Fault)
		}
		return
	}
	if e != api.OK {
		m.fails("decode-error")
		return
	}
	if m.peer == nil && p.Kind != api.KOpen || m.peer != nil && p.Kind == api.KOpen || x != 0 && (p.Kind == api.KOpen || p.Kind == api.KClose) {
		m.fails("illegal-state")
		return
	}
	switch p.Kind {
	case api.KOpen:
		m.peer = &p
		m.happened = append(m.happened, evOf(api.EvOpen, 0, 0, p))
	case api.KClose:
		m.putClose(api.Fault{})
		m.isNowOver(p.Fault)
	case api.KBegin:
		m.onBegin(x, p)
	default:
		m.inSession(x, p, body[at:])
	}
}

func (m *model) inSession(x int, p api.Perform, payload []byte) {
	s := m.byRemote(x)
	if s == nil {
		m.fails("not-allowed")
		return
	}
	if p.Kind == api.KEnd {
		if !s.byUs {
			m.putPerform(s.channel, endOf(api.Fault{}))
			m.happened = append(m.happened, evEnd(s.channel, p.Fault))
		}
		s.gone = true
		m.dropLinks(s)
		return
	}
	if s.byUs {
		return
	}
	switch p.Kind {
	case api.KAttach:
		m.onAttach(s, p)
	case api.KDetach:
		m.onDetach(s, p)
	case api.KFlow:
		m.onFlow(s, p)
	case api.KTransfer:
		m.onTransfer(s, p, payload)
	case api.KDisposition:
		m.onDisposition(s, p)
	}
}

// Sessions.

func (m *model) byRemote(x int) *mSession {
	for _, s := range m.sessions {
		if !s.gone && s.remote == x {
			return s
		}
	}
	return nil
}

func (m *model) byChannel(n int) *mSession {
	for _, s := range m.sessions {
		if !s.gone && s.channel == n {
			return s
		}
	}
	return nil
}

func (m *model) isMany() bool {
	there := 0
	for _, s := range m.sessions {
		if !s.gone {
			there++
		}
	}
	return there >= 16 || m.leastChannel() > min(m.cfg.ChannelMax, m.peer.ChannelMax)
}

func (m *model) leastChannel() int {
	n := 0
	for m.byChannel(n) != nil {
		n++
	}
	return n
}

func (m *model) newSession(remote int) *mSession {
	p := ownBegin(remote, m.cfg.Window)
	s := &mSession{channel: m.leastChannel(), remote: -1, s: session.New(p)}
	m.putPerform(s.channel, p)
	m.sessions = append(m.sessions, s)
	return s
}

func (m *model) Begin() (int, api.Errno) {
	switch {
	case m.isOver || m.closeOut:
		return 0, api.ErrClosed
	case !m.Up():
		return 0, api.ErrState
	case m.isMany():
		return 0, api.ErrMany
	}
	return m.newSession(-1).channel, api.OK
}

func (m *model) onBegin(x int, p api.Perform) {
	s := m.byChannel(p.Remote)
	switch {
	case m.byRemote(x) != nil:
		m.fails("illegal-state")
		return
	case x > m.cfg.ChannelMax:
		m.fails("not-allowed")
		return
	case p.Remote == -1 && m.isMany():
		m.fails("resource-limit-exceeded")
		return
	case p.Remote == -1:
		s = m.newSession(x)
	case s == nil || s.remote != -1:
		m.fails("illegal-state")
		return
	}
	s.remote = x
	s.s.Peer(p)
	if !s.byUs {
		m.happened = append(m.happened, evOf(api.EvBegin, s.channel, 0, p))
	}
}

func (m *model) dropLinks(s *mSession) {
	s.waits = nil
	for _, l := range m.links {
		if l.of == s {
			l.gone = true
		}
	}
}

func (m *model) End(channel int, f api.Fault) api.Errno {
	s := m.byChannel(channel)
	if s == nil || s.byUs {
		return api.ErrNoSess
	}
	p, e := m.withFault(api.Perform{Kind: api.KEnd}, channel, f)
	if e == api.OK {
		m.putPerform(channel, p)
		s.byUs = true
		m.dropLinks(s)
	}
	return e
}

func (m *model) sessionFails(s *mSession, cond string) {
	m.putPerform(s.channel, endOf(faultOf(cond)))
	s.byUs = true
	m.dropLinks(s)
	m.happened = append(m.happened, evEnd(s.channel, faultOf(cond)))
}

func (m *model) Channels() []int {
	var l []int
	for n := range 16 {
		if s := m.byChannel(n); s != nil && !s.byUs {
			l = append(l, n)
		}
	}
	return l
}

// Links.

// first is the first link of a session of which that is true.
func (m *model) first(s *mSession, is func(l *mLink) bool) *mLink {
	for _, l := range m.links {
		if !l.gone && l.of == s && is(l) {
			return l
		}
	}
	return nil
}

func (m *model) Attach(channel int, p api.Perform) (int, api.Errno) {
	s := m.byChannel(channel)
	if s == nil || s.byUs || s.remote == -1 {
		return 0, api.ErrNoSess
	}
	if p.Kind != api.KAttach {
		return 0, api.ErrArg
	}
	p.Handle = 0
	if e := perform.Check(p); e != api.OK {
		return 0, e
	}
	if m.first(s, func(l *mLink) bool {
		return l.own != nil && !l.detached && l.name == p.Name && l.receiver == p.Receiver
	}) != nil {
		return 0, api.ErrTwice
	}
	for m.first(s, func(l *mLink) bool { return l.handle == p.Handle }) != nil {
		p.Handle++
	}
	if p.Handle >= 64 || p.Handle > s.s.State().RemoteHandle {
		return 0, api.ErrMany
	}
	if _, ok := m.bytesOf(channel, p); !ok {
		return 0, api.ErrLong
	}
	m.putPerform(channel, p)
	s.s.Handle()
	l := m.first(s, func(l *mLink) bool { return l.own == nil && l.name == p.Name && l.receiver == p.Receiver })
	if l == nil {
		l = &mLink{of: s, name: p.Name, receiver: p.Receiver, remote: -1}
		m.links = append(m.links, l)
	}
	l.own, l.handle = &p, p.Handle
	l.isWholeNow()
	return p.Handle, api.OK
}

func (l *mLink) whole() bool { return l.own != nil && l.peer != nil }

func (l *mLink) isWholeNow() {
	if !l.whole() {
		return
	}
	c := api.LinkConfig{Name: l.name, Receiver: l.receiver, SndMode: l.own.SndMode, RcvMode: l.peer.RcvMode, InitialCount: l.own.InitialCount}
	if l.receiver {
		c.SndMode, c.RcvMode, c.InitialCount = l.peer.SndMode, l.own.RcvMode, l.peer.InitialCount
	}
	if c.InitialCount == -1 {
		c.InitialCount = 0
	}
	l.l = link.New(c)
	most := l.own.MaxMessage
	if most == 0 || most > maxMessage {
		most = maxMessage
	}
	l.j = carve.New(most)
}

func (m *model) onAttach(s *mSession, p api.Perform) {
	switch {
	case p.Handle > 63:
		m.sessionFails(s, "not-allowed")
		return
	case m.first(s, func(l *mLink) bool { return l.remote == p.Handle }) != nil:
		m.sessionFails(s, "handle-in-use")
		return
	case m.first(s, func(l *mLink) bool {
		return l.peer != nil && !l.detached && l.name == p.Name && l.peer.Receiver == p.Receiver
	}) != nil:
		m.sessionFails(s, "not-allowed")
		return
	}
	l := m.first(s, func(l *mLink) bool { return l.peer == nil && l.name == p.Name && l.own.Receiver != p.Receiver })
	if l == nil {
		l = &mLink{of: s, name: p.Name, receiver: !p.Receiver, handle: -1}
		m.links = append(m.links, l)
	}
	l.peer, l.remote = &p, p.Handle
	l.isWholeNow()
	m.happened = append(m.happened, evOf(api.EvAttach, s.channel, l.handle, p))
}

// at is the whole link of a handle of ours.
func (m *model) at(channel, handle int) (*mLink, api.Errno) {
	s := m.byChannel(channel)
	if s == nil || s.byUs {
		return nil, api.ErrNoSess
	}
	l := m.first(s, func(l *mLink) bool { return l.own != nil && !l.detached && l.handle == handle })
	if l == nil {
		return nil, api.ErrNoLink
	}
	if !l.whole() {
		return nil, api.ErrState
	}
	return l, api.OK
}

func (m *model) Detach(channel, handle int, closed bool, f api.Fault) api.Errno {
	l, e := m.at(channel, handle)
	if e != api.OK {
		return e
	}
	p, e := m.withFault(api.Perform{Kind: api.KDetach, Handle: handle, Closed: closed}, channel, f)
	if e == api.OK {
		m.putPerform(channel, p)
		m.emptied(l)
		l.detached = true
	}
	return e
}

// emptied takes away what belongs to a link.
func (m *model) emptied(l *mLink) {
	for len(l.pending) > 0 {
		l.settled(l.pending[0].Tag)
	}
	l.of.waits = slices.DeleteFunc(l.of.waits, func(w mWait) bool { return w.link == l })
}

// settled forgets a delivery in the session.
func (l *mLink) settled(tag string) {
	for i, d := range l.pending {
		if d.Tag == tag {
			l.of.s.Forget(!l.receiver, d.Id)
			l.pending = slices.Delete(l.pending, i, i+1)
			return
		}
	}
}

func (m *model) linkFails(l *mLink, cond string) {
	m.putPerform(l.of.channel, detachOf(l.handle, true, faultOf(cond)))
	m.emptied(l)
	l.detached = true
	m.happened = append(m.happened, evFailed(l.of.channel, l.handle, cond))
}

func (m *model) onDetach(s *mSession, p api.Perform) {
	l := m.first(s, func(l *mLink) bool { return l.remote == p.Handle })
	if l == nil {
		m.sessionFails(s, "unattached-handle")
		return
	}
	if l.own == nil {
		l.gone = true
	} else {
		if !l.detached {
			m.putPerform(s.channel, detachOf(l.handle, p.Closed, api.Fault{}))
		}
		m.emptied(l)
		l.gone = true
		s.s.Free(l.handle)
	}
	if !l.detached {
		m.happened = append(m.happened, api.Event{Kind: api.EvDetach, Channel: s.channel, Handle: l.handle, Perform: p, Fault: p.Fault})
	}
}

func (m *model) Handles(channel int) []int {
	var handles []int
	for h := range 64 {
		if _, e := m.at(channel, h); e == api.OK {
			handles = append(handles, h)
		}
	}
	return handles
}

func (m *model) Links(channel int) []api.LinkState {
	var states []api.LinkState
	for _, h := range m.Handles(channel) {
		l, _ := m.at(channel, h)
		states = append(states, l.l.See())
	}
	return states
}

// Credit.

// linkFlow writes a link's Flow, or lets it wait.
func (m *model) linkFlow(l *mLink) {
	fields := l.l.Fields(l.handle)
	m.perhapsLater(l, func() {
		p := l.of.s.Fields()
		p.Handle, p.Count, p.Credit, p.Available, p.Drain = fields.Handle, fields.Count, fields.Credit, fields.Available, fields.Drain
		m.putPerform(l.of.channel, p)
	})
}

func (m *model) perhapsLater(l *mLink, write func()) {
	if l.receiver {
		write()
		return
	}
	l.of.waits = append(l.of.waits, mWait{l, false, write})
	m.writeWaiting(l.of)
}

func (m *model) writeWaiting(s *mSession) {
	for len(s.waits) > 0 && (!s.waits[0].transfer || s.s.Sent() == api.OK) {
		w := s.waits[0]
		s.waits = s.waits[1:]
		w.write()
	}
}

func (m *model) Credit(channel, handle, credit int, drain bool) api.Errno {
	l, e := m.at(channel, handle)
	if e == api.OK {
		e = l.l.Grant(credit, drain)
	}
	if e == api.OK {
		m.linkFlow(l)
	}
	return e
}

func (m *model) Drained(channel, handle int) (bool, api.Errno) {
	l, e := m.at(channel, handle)
	if e != api.OK || !l.l.Drained() {
		return false, e
	}
	m.linkFlow(l)
	return true, api.OK
}

func (m *model) onFlow(s *mSession, p api.Perform) {
	if s.s.Flow(p) != api.OK {
		m.sessionFails(s, "invalid-field")
		return
	}
	var l *mLink
	if p.Handle != -1 {
		if l = m.first(s, func(l *mLink) bool { return l.remote == p.Handle }); l == nil {
			m.sessionFails(s, "unattached-handle")
			return
		}
		if !l.whole() || l.detached {
			l = nil
		} else {
			l.l.Flow(p)
			m.happened = append(m.happened, evOf(api.EvFlow, s.channel, l.handle, p))
		}
	}
	if p.Echo && l != nil {
		m.linkFlow(l)
	}
	if p.Echo && l == nil {
		m.putPerform(s.channel, s.s.Fields())
	}
	m.writeWaiting(s)
}

// Deliveries.

func (m *model) Send(channel, handle int, tag string, data []byte, settled bool, st api.State) (int, api.Errno) {
	l, e := m.at(channel, handle)
	if e != api.OK {
		return 0, e
	}
	if len(tag) < 1 || len(tag) > 32 {
		return 0, api.ErrTag
	}
	if len(data) > maxMessage || l.peer.MaxMessage > 0 && len(data) > l.peer.MaxMessage {
		return 0, api.ErrLong
	}
	p := transferOf(handle, l.of.s.State().NextDelivery, tag, settled)
	p.State = st
	frames, e := carve.Split(p, channel, data, m.size())
	if e == api.OK {
		e = l.l.Send(tag, settled)
	}
	if e != api.OK {
		return 0, e
	}
	id, _ := l.of.s.Deliver(handle, tag, settled)
	if !settled {
		l.pending = append(l.pending, api.Pending{Id: id, Handle: handle, Tag: tag})
	}
	for _, b := range frames {
		l.of.waits = append(l.of.waits, mWait{l, true, func() { m.put(b) }})
	}
	m.writeWaiting(l.of)
	return id, api.OK
}

func (m *model) onTransfer(s *mSession, p api.Perform, payload []byte) {
	if s.s.Got() != api.OK {
		m.sessionFails(s, "window-violation")
		return
	}
	l := m.first(s, func(l *mLink) bool { return l.remote == p.Handle })
	switch {
	case l == nil:
		m.sessionFails(s, "unattached-handle")
	case l.detached:
	case !l.whole() || !l.receiver:
		m.sessionFails(s, "not-allowed")
	default:
		m.onPiece(l, p, payload)
	}
	if !s.byUs && 2*s.s.State().InWin <= m.cfg.Window {
		s.s.Widen(m.cfg.Window)
		m.putPerform(s.channel, s.s.Fields())
	}
}

func (m *model) onPiece(l *mLink, p api.Perform, payload []byte) {
	if unfinished, _ := l.j.Held(); !unfinished {
		if p.DeliveryId < 0 || !p.HasTag || p.Tag == "" {
			m.linkFails(l, "not-allowed")
			return
		}
		if e := l.l.Got(p.Tag, p.Settled); e == api.ErrCredit {
			m.linkFails(l, "transfer-limit-exceeded")
			return
		} else if e != api.OK {
			m.linkFails(l, "not-allowed")
			return
		}
		if l.of.s.Arrive(p.DeliveryId, l.handle, p.Tag, p.Settled) != api.OK {
			m.sessionFails(l.of, "not-allowed")
			return
		}
		if !p.Settled {
			l.pending = append(l.pending, api.Pending{Id: p.DeliveryId, Handle: l.handle, Tag: p.Tag})
		}
		l.unfinished = p.Tag
	}
	d, whole, e := l.j.On(p, payload)
	if e == api.ErrTooMuch {
		m.linkFails(l, "message-size-exceeded")
		return
	}
	if e != api.OK {
		m.linkFails(l, "not-allowed")
		return
	}
	if whole {
		m.happened = append(m.happened, evDelivery(l.of.channel, l.handle, d))
	}
	if p.Aborted || whole && d.Settled {
		l.l.Peer(l.unfinished, api.State{}, true)
		l.settled(l.unfinished)
	}
}

func (m *model) Settle(channel, handle int, tag string, st api.State, settled bool) api.Errno {
	l, e := m.at(channel, handle)
	if e != api.OK {
		return e
	}
	if st.Kind == 0 {
		st = api.State{}
	}
	p := dispositionOf(l.receiver, 0, -1, settled, st)
	for _, d := range l.pending {
		if d.Tag == tag {
			p.First = d.Id
		}
	}
	if e := perform.Check(p); e != api.OK {
		return e
	}
	if _, ok := m.bytesOf(channel, p); !ok {
		return api.ErrLong
	}
	if e := l.l.Own(tag, st, settled); e != api.OK {
		return e
	}
	if settled {
		l.settled(tag)
	}
	b, _ := m.bytesOf(channel, p)
	m.perhapsLater(l, func() { m.put(b) })
	return api.OK
}

func (m *model) onDisposition(s *mSession, p api.Perform) {
	if p.Last == -1 {
		p.Last = p.First
	}
	for _, d := range s.s.Range(p.Receiver, p.First, p.Last) {
		l := m.first(s, func(l *mLink) bool { return l.handle == d.Handle })
		if l.detached {
			continue
		}
		if _, e := l.l.Peer(d.Tag, p.State, p.Settled); e != api.OK {
			m.linkFails(l, "not-allowed")
			continue
		}
		if p.Settled {
			l.settled(d.Tag)
		}
		m.happened = append(m.happened, evState(s.channel, l.handle, d.Id, d.Tag, p.State, p.Settled))
	}
}
