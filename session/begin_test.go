package session_test

import (
	"testing"

	"longshore/api"
	"longshore/session"
)

// places are the four numbers of a Begin.
var places = map[string]func(p *api.Perform) *int{
	"NextOut":   func(p *api.Perform) *int { return &p.NextOut },
	"InWin":     func(p *api.Perform) *int { return &p.InWin },
	"OutWin":    func(p *api.Perform) *int { return &p.OutWin },
	"HandleMax": func(p *api.Perform) *int { return &p.HandleMax },
}

// full says, beside what a Begin or a Flow must say, all that is not looked at.
func full(p api.Perform) api.Perform {
	list := []api.Value{{Kind: 99, Num: 7}, {Text: "\xff"}}
	p.Id, p.Host, p.MaxFrame, p.ChannelMax, p.Idle, p.Props = "\xff", "h", -5, -6, -7, api.Value{Kind: 1, List: list}
	p.Remote, p.Name, p.Handle, p.Receiver, p.SndMode, p.RcvMode = 1<<40, "n", -9, true, 9, 9
	p.Source, p.Target = api.Terminus{Kind: 3}, api.Terminus{Caps: []string{"c"}}
	p.Unsettled, p.Incomplete, p.InitialCount, p.MaxMessage = []api.Unsettled{{Tag: "t"}}, true, -8, -9
	p.Count, p.Credit, p.Available, p.Drain, p.Echo = 1<<40, -11, -12, true, true
	p.DeliveryId, p.HasTag, p.Tag, p.Format, p.Settled, p.HasSettled = 13, true, "tag", 14, true, true
	p.More, p.Resume, p.Aborted, p.Batchable, p.State = true, true, true, true, api.State{Kind: 5}
	p.First, p.Last, p.Closed, p.Fault = 15, 16, true, api.Fault{Cond: "c"}
	return p
}

// P13.1: nil of each other kind, and of each number that is no word.
func TestNewOfWhatMayNotBe(t *testing.T) {
	for _, k := range kindsBut(api.KBegin) {
		if session.New(turned(begin(5, 2, 10, 1), func(p *api.Perform) { p.Kind = k })) != nil {
			t.Errorf("New of the kind %d: not nil", k)
		}
	}
	for name, at := range places {
		for _, n := range noWords {
			if session.New(turned(begin(5, 2, 10, 1), func(p *api.Perform) { *at(p) = n })) != nil {
				t.Errorf("New with %s %d: not nil", name, n)
			}
		}
	}
}

// P13.1, P13.3: a session has the four numbers of its Begin, and nothing else.
func TestNew(t *testing.T) {
	wantNew(t, begin(1, 2, 3, 4))
	wantNew(t, full(begin(1, 2, 3, 4)))
	wantNew(t, begin(0, 0, 0, 0))
	wantNew(t, begin(maxWord, maxWord, maxWord, maxWord))
	for _, at := range places {
		for _, n := range words {
			wantNew(t, turned(begin(5, 2, 10, 1), func(p *api.Perform) { *at(p) = n }))
			// Numbers of a Flow are not looked at in a Begin.
			wantNew(t, turned(begin(5, 2, 10, 1), func(p *api.Perform) { p.NextIn, *at(p) = -7, n }))
		}
	}
}

func wantNew(t *testing.T, own api.Perform) {
	t.Helper()
	s := started(t, own)
	wantStands(t, "New", s, api.SessionState{NextOut: own.NextOut, InWin: own.InWin, OutWin: own.OutWin, HandleMax: own.HandleMax})
	for _, half := range halves {
		wantRange(t, s, true, half[0], half[1])
		wantRange(t, s, false, half[0], half[1])
	}
	for _, n := range []int{-1, 0, 1, own.HandleMax} {
		wantLocal(t, s, n, 0, false)
		wantErrno(t, "Free", s.Free(n), api.ErrHandle)
		wantErrno(t, "Remote", s.Remote(0, n), api.ErrHandle)
		wantDeliver(t, s, n, "t", false, 0, api.ErrHandle)
		wantErrno(t, "Arrive", s.Arrive(0, n, "t", false), api.ErrHandle)
	}
}

// P13.2: of the peer's Begin each number goes to its place; what it says beside them is not looked at.
func TestPeer(t *testing.T) {
	own := begin(1, 2, 3, 4)
	for _, peer := range []api.Perform{begin(11, 12, 13, 14), full(begin(11, 12, 13, 14)), begin(0, 0, 0, 0), begin(maxWord, maxWord, maxWord, maxWord)} {
		wantPeer(t, own, peer)
	}
	for _, at := range places {
		for _, n := range words {
			wantPeer(t, own, turned(begin(11, 12, 13, 14), func(p *api.Perform) { *at(p) = n }))
			wantPeer(t, turned(own, func(p *api.Perform) { *at(p) = n }), begin(11, 12, 13, 14))
		}
	}
}

func wantPeer(t *testing.T, own, peer api.Perform) {
	t.Helper()
	remoteIn := peer.InWin
	if remoteIn > 2147483647 {
		remoteIn = 2147483647
	}
	wantStands(t, "Peer", up(t, own, peer), api.SessionState{
		Peer: true, NextOut: own.NextOut, InWin: own.InWin, OutWin: own.OutWin, HandleMax: own.HandleMax,
		NextIn: peer.NextOut, RemoteIn: remoteIn, RemoteOut: peer.OutWin, RemoteHandle: peer.HandleMax,
	})
}

// P13.2: the peer's window is bounded by Most.
func TestPeersWindow(t *testing.T) {
	for _, c := range [][2]int{{0, 0}, {1, 1}, {2147483646, 2147483646}, {2147483647, 2147483647}, {2147483648, 2147483647}, {4294967295, 2147483647}} {
		s := up(t, begin(1, 2, maxWord, 4), begin(11, c[0], 13, 14))
		if st := s.State(); st.RemoteIn != c[1] || s.Room() != c[1] {
			t.Errorf("the peer's InWin %d: RemoteIn %d, Room %d, want %d", c[0], st.RemoteIn, s.Room(), c[1])
		}
	}
}

// P13.2: what is no Begin has not come; one may come behind it.
func TestPeerThatMayNotBe(t *testing.T) {
	fresh := func() *session.Session { return started(t, begin(1, 2, 3, 4)) }
	wrong := []api.Perform{{}, flow(1, 2, 3, 4)}
	for _, k := range kindsBut(api.KBegin) {
		wrong = append(wrong, turned(begin(11, 12, 13, 14), func(p *api.Perform) { p.Kind = k }))
	}
	for _, at := range places {
		for _, n := range noWords {
			wrong = append(wrong, turned(begin(11, 12, 13, 14), func(p *api.Perform) { *at(p) = n }))
		}
	}
	for _, p := range wrong {
		wantRefused(t, "Peer("+told(p)+")", fresh, api.ErrArg, func(s *session.Session) api.Errno { return s.Peer(p) })
	}
}

// P13.2: the peer's Begin comes once; ErrState is told ahead of ErrArg.
func TestPeerTwice(t *testing.T) {
	made := func() *session.Session { return up(t, begin(1, 2, 3, 4), begin(11, 12, 13, 14)) }
	for _, p := range []api.Perform{begin(11, 12, 13, 14), begin(21, 22, 23, 24), begin(0, 0, 0, 0), begin(-1, 0, 0, 0), flow(1, 2, 3, 4), {}} {
		wantRefused(t, "Peer again", made, api.ErrState, func(s *session.Session) api.Errno { return s.Peer(p) })
		wantRefused(t, "Peer again", func() *session.Session { return busy(t) }, api.ErrState, func(s *session.Session) api.Errno { return s.Peer(p) })
	}
}

// P13.3, P13.7, P13.9, P13.12: what tells changes nothing.
func TestTellingChangesNothing(t *testing.T) {
	for _, made := range []func() *session.Session{
		func() *session.Session { return started(t, begin(1, 2, 3, 4)) },
		func() *session.Session { return up(t, begin(1, 2, 3, 4), begin(11, 12, 13, 14)) },
		func() *session.Session { return busy(t) },
	} {
		s := made()
		first := seen(s)
		for range 3 {
			if again := seen(s); again != first {
				t.Errorf("seen again: %s, before: %s", again, first)
			}
		}
		if got, want := probed(s), probed(made()); got != want {
			t.Errorf("behind what tells: %s, want %s", got, want)
		}
	}
}

// P13.3: State tells all of a session in the midst of things.
func TestStateInTheMidst(t *testing.T) {
	wantStands(t, "busy", busy(t), api.SessionState{
		Peer: true, NextOut: 1, OutWin: 10, NextIn: 8, InWin: 1, RemoteIn: 3, RemoteOut: 4,
		NextDelivery: 4, Sending: 3, Receiving: 4, HandleMax: 1000, RemoteHandle: 63,
	})
}
