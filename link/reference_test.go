package link_test

import (
	"slices"

	"longshore/api"
	"longshore/link"
)

// calls are what a link can be asked.
type calls interface {
	Grant(credit int, drain bool) api.Errno
	Flow(p api.Perform) api.Errno
	Available(n int) api.Errno
	Drained() bool
	Send(tag string, settled bool) api.Errno
	Got(tag string, settled bool) api.Errno
	Own(tag string, s api.State, settled bool) api.Errno
	Peer(tag string, s api.State, settled bool) (bool, api.Errno)
	Look(tag string) (api.State, api.State, bool)
	Unsettled() []api.Unsettled
	Resume(peer []api.Unsettled) []api.Resumed
	Fields(handle int) api.Perform
	See() api.LinkState
}

var _ calls = (*link.Link)(nil)

// model is a second way to what the chapter says: it counts all deliveries from the first one on, in numbers that don't go round, tells the credit from them, and keeps deliveries one behind the other.
type model struct {
	c       api.LinkConfig
	passed  int // deliveries in all that were sent, came, or were given up
	may     int // up to so many in all there is credit
	asked   int // the greatest that may ever was
	waiting int
	drain   bool
	left    []left
}

type left struct {
	tag       string
	own, peer api.State
}

const round = 1 << 32

// serial is a number where it goes round.
func serial(n int) int { return (n%round + round) % round }

// gap is how far b lies behind a, on the shorter way.
func gap(a, b int) int {
	forth := serial(serial(b) - serial(a))
	if back := round - forth; back <= forth {
		return -back
	}
	return forth
}

// newModel is nil where New must be.
func newModel(c api.LinkConfig) *model {
	if len(c.Name) > 64 || c.SndMode < 0 || c.SndMode > 2 || c.RcvMode < 0 || c.RcvMode > 1 || c.InitialCount != serial(c.InitialCount) || c.MaxMessage < 0 {
		return nil
	}
	return &model{c: c}
}

func (m *model) credit() int {
	if m.may > m.passed {
		return m.may - m.passed
	}
	return 0
}

func (m *model) count() int { return m.c.InitialCount + m.passed }

func (m *model) Grant(credit int, drain bool) api.Errno {
	switch {
	case !m.c.Receiver:
		return api.ErrState
	case credit < 0 || credit >= 1<<31:
		return api.ErrArg
	}
	m.may, m.drain = m.passed+credit, drain
	if m.may > m.asked {
		m.asked = m.may
	}
	return api.OK
}

func (m *model) Flow(p api.Perform) api.Errno {
	if p.Kind != 19 {
		return api.ErrArg
	}
	if m.c.Receiver {
		if p.Available != -1 {
			m.waiting = serial(p.Available)
		}
		if p.Count != -1 && gap(m.count(), p.Count) > 0 {
			m.passed = min(m.passed+gap(m.count(), p.Count), m.asked)
		}
		return api.OK
	}
	if p.Credit != -1 {
		from := m.c.InitialCount
		if p.Count != -1 {
			from = serial(p.Count)
		}
		m.may, m.drain = m.passed+gap(m.count(), from+serial(p.Credit)), p.Drain
	}
	return api.OK
}

func (m *model) Available(n int) api.Errno {
	switch {
	case m.c.Receiver:
		return api.ErrState
	case n != serial(n):
		return api.ErrArg
	}
	m.waiting = n
	return api.OK
}

func (m *model) Drained() bool {
	if m.c.Receiver || !m.drain || m.credit() == 0 {
		return false
	}
	m.passed = m.may
	return true
}

func (m *model) Send(tag string, settled bool) api.Errno { return m.deliver(false, tag, settled) }

func (m *model) Got(tag string, settled bool) api.Errno { return m.deliver(true, tag, settled) }

func (m *model) deliver(receiver bool, tag string, settled bool) api.Errno {
	switch {
	case receiver != m.c.Receiver:
		return api.ErrState
	case len(tag) < 1 || len(tag) > 32:
		return api.ErrTag
	case !receiver && m.credit() == 0 || receiver && m.passed == m.asked:
		return api.ErrCredit
	case m.find(tag) >= 0:
		return api.ErrTwice
	case settled && m.c.SndMode == 0 || !settled && m.c.SndMode == 1:
		return api.ErrMode
	}
	m.passed++
	if m.waiting > 0 {
		m.waiting--
	}
	if !settled {
		m.left = append(m.left, left{tag: tag})
	}
	return api.OK
}

// find is where an unsettled delivery lies; -1: there is none.
func (m *model) find(tag string) int {
	return slices.IndexFunc(m.left, func(d left) bool { return d.tag == tag })
}

// say is what Own and Peer have in common; whom tells what is said.
func (m *model) say(tag string, s api.State, settled, byReceiver bool, whom func(d *left) *api.State) (bool, api.Errno) {
	at := m.find(tag)
	switch {
	case at < 0:
		return false, api.ErrNone
	case settled && byReceiver && m.c.RcvMode == 1:
		return false, api.ErrMode
	}
	news, last := settled, whom(&m.left[at])
	if s.Kind != 0 {
		news = news || !sameState(*last, s)
		*last = s
	}
	if settled {
		m.left = slices.Delete(m.left, at, at+1)
	}
	return news, api.OK
}

func (m *model) Own(tag string, s api.State, settled bool) api.Errno {
	_, e := m.say(tag, s, settled, m.c.Receiver, func(d *left) *api.State { return &d.own })
	return e
}

func (m *model) Peer(tag string, s api.State, settled bool) (bool, api.Errno) {
	return m.say(tag, s, settled, !m.c.Receiver, func(d *left) *api.State { return &d.peer })
}

func (m *model) Look(tag string) (api.State, api.State, bool) {
	if at := m.find(tag); at >= 0 {
		return m.left[at].own, m.left[at].peer, true
	}
	return api.State{}, api.State{}, false
}

func (m *model) Unsettled() []api.Unsettled {
	var l []api.Unsettled
	for _, d := range m.left {
		at := 0
		for at < len(l) && l[at].Tag < d.tag {
			at++
		}
		l = slices.Insert(l, at, api.Unsettled{Tag: d.tag, State: d.own})
	}
	return l
}

func final(s api.State) bool { return s.Kind >= 36 && s.Kind <= 39 }

func (m *model) Resume(peer []api.Unsettled) []api.Resumed {
	var tags []string
	for _, d := range m.left {
		tags = append(tags, d.tag)
	}
	for _, u := range peer {
		tags = append(tags, u.Tag)
	}
	slices.Sort(tags)
	var l []api.Resumed
	for _, tag := range slices.Compact(tags) {
		here := m.find(tag)
		there := slices.IndexFunc(peer, func(u api.Unsettled) bool { return u.Tag == tag })
		what := 0
		switch {
		case m.c.Receiver && there >= 0:
			what = 4
		case m.c.Receiver:
			what = 1
		case here < 0, there >= 0 && final(peer[there].State):
			what = 2
		case there < 0 && final(m.left[here].peer):
			what = 1
		default:
			what = 3
		}
		l = append(l, api.Resumed{Tag: tag, What: what})
	}
	return l
}

func (m *model) Fields(handle int) api.Perform {
	st := m.See()
	p := api.Perform{Kind: 19, NextIn: -1, Handle: handle, Count: st.Count, Credit: st.Credit, Available: st.Available, Drain: st.Drain}
	if st.Receiver {
		p.Available = -1
	}
	return p
}

func (m *model) See() api.LinkState {
	drain := m.drain && (!m.c.Receiver || m.credit() > 0)
	return api.LinkState{Name: m.c.Name, Receiver: m.c.Receiver, Count: serial(m.count()), Credit: m.credit(), Available: m.waiting, Drain: drain, Unsettled: len(m.left)}
}
