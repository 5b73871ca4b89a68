package session_test

import (
	"testing"

	"longshore/api"
	"longshore/session"
)

// The chapter's section 'Examples', row by row, on one session.
func TestExamples(t *testing.T) {
	b, c := begin(5, 2, 10, 1), begin(4294967295, 3, 7, 0)
	if session.New(turned(b, func(p *api.Perform) { p.InWin = -1 })) != nil || session.New(flow(0, 2, 5, 10)) != nil {
		t.Error("New of a Begin with InWin -1, New of a Flow: not nil")
	}
	s := started(t, b)
	exampleWindows(t, s, c)
	exampleHandles(t, s)
	exampleDeliveries(t, s)
}

func exampleWindows(t *testing.T, s *session.Session, c api.Perform) {
	wantStands(t, "New", s, api.SessionState{NextOut: 5, InWin: 2, OutWin: 10, HandleMax: 1})
	wantErrno(t, "Got", s.Got(), api.ErrState)
	wantHandle(t, s, 0, api.ErrState)
	wantErrno(t, "Peer", s.Peer(c), api.OK)
	wantErrno(t, "Peer again", s.Peer(c), api.ErrState)
	want := api.SessionState{Peer: true, NextOut: 5, InWin: 2, OutWin: 10, HandleMax: 1, NextIn: 4294967295, RemoteIn: 3, RemoteOut: 7}
	wantStands(t, "Peer", s, want)
	for _, e := range []api.Errno{api.OK, api.OK, api.ErrWindow} {
		wantErrno(t, "Got", s.Got(), e)
	}
	want.NextIn, want.InWin, want.RemoteOut = 1, 0, 5
	wantStands(t, "Got", s, want)
	wantErrno(t, "Widen(2)", s.Widen(2), api.OK)
	wantErrno(t, "Widen(1)", s.Widen(1), api.OK)
	wantErrno(t, "Got", s.Got(), api.OK)
	want.NextIn, want.InWin, want.RemoteOut = 2, 1, 4
	wantStands(t, "Widen, Got", s, want)
	for _, e := range []api.Errno{api.OK, api.OK, api.OK, api.ErrWindow} {
		wantErrno(t, "Sent", s.Sent(), e)
	}
	want.NextOut, want.RemoteIn = 8, 0
	wantStands(t, "Sent", s, want)
	wantErrno(t, "Flow(6)", s.Flow(flow(6, 3, 2, 7)), api.OK)
	want.RemoteIn, want.RemoteOut = 1, 7
	wantStands(t, "Flow(6)", s, want)
	wantErrno(t, "Flow(9)", s.Flow(flow(9, 3, 2, 7)), api.ErrSeries)
	wantErrno(t, "Flow(5)", s.Flow(flow(5, 2, 2, 7)), api.ErrSeries)
	wantStands(t, "Flow(5)", s, want)
	wantErrno(t, "Flow(-1)", s.Flow(flow(-1, 3, 2, 7)), api.OK)
	want.RemoteIn = 0
	wantStands(t, "Flow(-1)", s, want)
}

func exampleHandles(t *testing.T, s *session.Session) {
	wantHandle(t, s, 0, api.OK)
	wantHandle(t, s, 0, api.ErrHandle)
	wantErrno(t, "Remote(1, 0)", s.Remote(1, 0), api.OK)
	wantErrno(t, "Remote(2, 0)", s.Remote(2, 0), api.ErrHandle)
	wantErrno(t, "Remote(0, 0)", s.Remote(0, 0), api.ErrHandle)
	wantLocal(t, s, 1, 0, true)
	wantLocal(t, s, 0, 0, false)
}

func exampleDeliveries(t *testing.T, s *session.Session) {
	wantDeliver(t, s, 0, "a", false, 0, api.OK)
	wantDeliver(t, s, 0, "b", true, 1, api.OK)
	wantDeliver(t, s, 0, "c", false, 2, api.OK)
	wantDeliver(t, s, 7, "d", false, 0, api.ErrHandle)
	wantRange(t, s, true, 0, 2, api.Pending{Id: 0, Tag: "a"}, api.Pending{Id: 2, Tag: "c"})
	wantRange(t, s, true, 2, 0)
	wantRange(t, s, true, 4294967295, 0, api.Pending{Id: 0, Tag: "a"})
	wantErrno(t, "Arrive", s.Arrive(4294967295, 0, "x", false), api.OK)
	wantErrno(t, "Arrive again", s.Arrive(4294967295, 0, "x", false), api.ErrSeries)
	wantErrno(t, "Arrive", s.Arrive(0, 0, "y", false), api.OK)
	wantRange(t, s, false, 4294967295, 5, api.Pending{Id: 4294967295, Tag: "x"}, api.Pending{Id: 0, Tag: "y"})
	wantErrno(t, "Forget(true, 0)", s.Forget(true, 0), api.OK)
	wantErrno(t, "Forget(true, 0) again", s.Forget(true, 0), api.ErrSeries)
	wantErrno(t, "Forget(false, 0)", s.Forget(false, 0), api.OK)
	wantErrno(t, "Free(0)", s.Free(0), api.OK)
	wantRange(t, s, true, 0, 9)
	wantLocal(t, s, 1, 0, false)
	wantErrno(t, "Free(0) again", s.Free(0), api.ErrHandle)
}

func TestNumbers(t *testing.T) {
	for _, c := range []struct {
		name      string
		got, want int
	}{
		{"MaxWord", api.MaxWord, 4294967295}, {"MaxLinks", api.MaxLinks, 64}, {"KBegin", api.KBegin, 17}, {"KFlow", api.KFlow, 19},
		{"ErrArg", int(api.ErrArg), 1}, {"ErrState", int(api.ErrState), 4}, {"ErrWindow", int(api.ErrWindow), 130}, {"ErrSeries", int(api.ErrSeries), 131}, {"ErrHandle", int(api.ErrHandle), 132},
	} {
		if c.got != c.want {
			t.Errorf("%s: %d, want %d", c.name, c.got, c.want)
		}
	}
}
