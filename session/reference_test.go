package session_test

import (
	"slices"

	"longshore/api"
)

// calls are what a session can be asked.
type calls interface {
	Peer(begin api.Perform) api.Errno
	Room() int
	Sent() api.Errno
	Got() api.Errno
	Flow(p api.Perform) api.Errno
	Widen(n int) api.Errno
	Fields() api.Perform
	Deliver(handle int, tag string, settled bool) (int, api.Errno)
	Arrive(id, handle int, tag string, settled bool) api.Errno
	Range(sending bool, first, last int) []api.Pending
	Forget(sending bool, id int) api.Errno
	Handle() (int, api.Errno)
	Free(handle int) api.Errno
	Remote(remote, handle int) api.Errno
	Local(remote int) (int, bool)
	State() api.SessionState
	SetNextDelivery(n int)
}

// model is a second way to what the chapter says: it counts all that was sent and came from the first one on, in numbers that don't go round, and looks for handles and deliveries one by one.
type model struct {
	own, peer  api.Perform
	begun      bool
	sent       int // transfers in all
	maySend    int // transfers in all, by the peer's window
	got        int // transfers in all
	mayGet     int // transfers in all, by our window
	behind     int // how far NextIn has gone on
	remoteOut  int
	deliveries int // in all
	handles    []held
	pending    []delivery
}

// held is a handle that is in use; remotes are those that stand for it, one at most.
type held struct {
	handle  int
	remotes []int
}

type delivery struct {
	sent bool
	api.Pending
}

const round = 1 << 32

// serial is a number where it goes round.
func serial(n int) int { return (n%round + round) % round }

// gap is how far b lies behind a, on the shorter way.
func gap(a, b int) int {
	forth := serial(b - a)
	if back := round - forth; back <= forth {
		return -back
	}
	return forth
}

func isWord(n int) bool { return serial(n) == n }

func mayBegin(p api.Perform) bool {
	return p.Kind == 17 && isWord(p.NextOut) && isWord(p.InWin) && isWord(p.OutWin) && isWord(p.HandleMax)
}

// newModel is nil where New must be.
func newModel(own api.Perform) *model {
	if !mayBegin(own) {
		return nil
	}
	return &model{own: own, mayGet: own.InWin}
}

func (m *model) Peer(begin api.Perform) api.Errno {
	switch {
	case m.begun:
		return api.ErrState
	case !mayBegin(begin):
		return api.ErrArg
	}
	m.begun, m.peer, m.remoteOut = true, begin, begin.OutWin
	m.allow(begin.InWin)
	return api.OK
}

// allow says how many more transfers the peer takes.
func (m *model) allow(n int) {
	if n >= 1<<31 {
		n = 1<<31 - 1
	}
	m.maySend = m.sent + n
}

func (m *model) Room() int {
	n := m.maySend - m.sent
	if n > m.own.OutWin {
		return m.own.OutWin
	}
	return n
}

func (m *model) Sent() api.Errno {
	if m.Room() <= 0 {
		return api.ErrWindow
	}
	m.sent++
	return api.OK
}

func (m *model) Got() api.Errno {
	switch {
	case !m.begun:
		return api.ErrState
	case m.got == m.mayGet:
		return api.ErrWindow
	}
	m.got++
	m.behind++
	if m.remoteOut > 0 {
		m.remoteOut--
	}
	return api.OK
}

func (m *model) Widen(n int) api.Errno {
	if !isWord(n) {
		return api.ErrArg
	}
	if m.got+n > m.mayGet {
		m.mayGet = m.got + n
	}
	return api.OK
}

func (m *model) Flow(p api.Perform) api.Errno {
	switch {
	case !m.begun:
		return api.ErrState
	case p.Kind != 19 || !isWord(p.InWin) || !isWord(p.NextOut) || !isWord(p.OutWin) || !isWord(p.NextIn) && p.NextIn != -1:
		return api.ErrArg
	}
	heard := p.NextIn
	if heard < 0 {
		heard = m.own.NextOut
	}
	ahead := gap(heard, m.own.NextOut+m.sent)
	if ahead < 0 || p.InWin < ahead {
		return api.ErrSeries
	}
	m.allow(p.InWin - ahead)
	m.remoteOut = p.OutWin
	if more := gap(m.peer.NextOut+m.behind, p.NextOut); more > 0 {
		m.behind += more
	}
	return api.OK
}

func (m *model) Fields() api.Perform {
	st := m.State()
	p := api.Perform{Kind: 19, NextIn: -1, InWin: st.InWin, NextOut: st.NextOut, OutWin: st.OutWin, Handle: -1, Count: -1, Credit: -1, Available: -1}
	if st.Peer {
		p.NextIn = st.NextIn
	}
	return p
}

// place is where a handle that is in use lies; -1: it is not.
func (m *model) place(handle int) int {
	return slices.IndexFunc(m.handles, func(h held) bool { return h.handle == handle })
}

// find is where an unsettled delivery lies; -1: there is none.
func (m *model) find(sent bool, id int) int {
	return slices.IndexFunc(m.pending, func(d delivery) bool { return d.sent == sent && d.Id == id })
}

// note is what Deliver and Arrive have in common.
func (m *model) note(d delivery, settled bool) api.Errno {
	switch {
	case m.place(d.Handle) < 0:
		return api.ErrHandle
	case m.find(d.sent, d.Id) >= 0:
		return api.ErrSeries
	}
	if !settled {
		m.pending = append(m.pending, d)
	}
	return api.OK
}

func (m *model) Deliver(handle int, tag string, settled bool) (int, api.Errno) {
	id := serial(m.deliveries)
	if e := m.note(delivery{true, api.Pending{Id: id, Handle: handle, Tag: tag}}, settled); e != api.OK {
		return 0, e
	}
	m.deliveries++
	return id, api.OK
}

func (m *model) Arrive(id, handle int, tag string, settled bool) api.Errno {
	if !isWord(id) {
		return api.ErrArg
	}
	return m.note(delivery{false, api.Pending{Id: id, Handle: handle, Tag: tag}}, settled)
}

func (m *model) Range(sending bool, first, last int) []api.Pending {
	var l []api.Pending
	for _, d := range m.pending {
		if isWord(first) && isWord(last) && d.sent == sending && gap(first, d.Id) >= 0 && gap(first, d.Id) <= gap(first, last) {
			at := 0
			for at < len(l) && gap(first, l[at].Id) < gap(first, d.Id) {
				at++
			}
			l = slices.Insert(l, at, d.Pending)
		}
	}
	return l
}

func (m *model) Forget(sending bool, id int) api.Errno {
	at := m.find(sending, id)
	if at < 0 {
		return api.ErrSeries
	}
	m.pending = slices.Delete(m.pending, at, at+1)
	return api.OK
}

func (m *model) Handle() (int, api.Errno) {
	if !m.begun {
		return 0, api.ErrState
	}
	least := 0
	for m.place(least) >= 0 {
		least++
	}
	if len(m.handles) == 64 || least > m.peer.HandleMax {
		return 0, api.ErrHandle
	}
	m.handles = append(m.handles, held{handle: least})
	return least, api.OK
}

func (m *model) Free(handle int) api.Errno {
	at := m.place(handle)
	if at < 0 {
		return api.ErrHandle
	}
	m.handles = slices.Delete(m.handles, at, at+1)
	m.pending = slices.DeleteFunc(m.pending, func(d delivery) bool { return d.Handle == handle })
	return api.OK
}

func (m *model) Remote(remote, handle int) api.Errno {
	at := m.place(handle)
	_, is := m.Local(remote)
	if remote < 0 || remote > m.own.HandleMax || is || at < 0 || len(m.handles[at].remotes) > 0 {
		return api.ErrHandle
	}
	m.handles[at].remotes = []int{remote}
	return api.OK
}

func (m *model) Local(remote int) (int, bool) {
	for _, h := range m.handles {
		if slices.Contains(h.remotes, remote) {
			return h.handle, true
		}
	}
	return 0, false
}

func (m *model) State() api.SessionState {
	st := api.SessionState{Peer: m.begun, NextOut: serial(m.own.NextOut + m.sent), OutWin: m.own.OutWin, InWin: m.mayGet - m.got, HandleMax: m.own.HandleMax, NextDelivery: serial(m.deliveries)}
	if m.begun {
		st.NextIn, st.RemoteIn, st.RemoteOut, st.RemoteHandle = serial(m.peer.NextOut+m.behind), m.maySend-m.sent, m.remoteOut, m.peer.HandleMax
	}
	for _, d := range m.pending {
		if d.sent {
			st.Sending++
		} else {
			st.Receiving++
		}
	}
	return st
}

func (m *model) SetNextDelivery(n int) { m.deliveries = n }
