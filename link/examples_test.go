package link_test

import (
	"testing"

	"longshore/api"
	"longshore/link"
)

// The chapter's section 'Examples', row by row, on one sender and one receiver.
func TestExamples(t *testing.T) {
	c := api.LinkConfig{Name: "l", InitialCount: 4294967295, SndMode: api.SndMixed, RcvMode: api.RcvFirst}
	s := made(t, c)
	c.Receiver = true
	r := made(t, c)
	if link.New(api.LinkConfig{Name: "l", SndMode: 3}) != nil {
		t.Error("New with SndMode 3: not nil")
	}
	exampleCredit(t, s, r)
	exampleStates(t, s, r)
	exampleDrain(t, s, r)
}

func exampleCredit(t *testing.T, s, r *link.Link) {
	wantErrno(t, "s.Grant(1, false)", s.Grant(1, false), api.ErrState)
	wantErrno(t, "r.Send", r.Send("t", false), api.ErrState)
	wantErrno(t, "s.Send without credit", s.Send("t", false), api.ErrCredit)
	wantErrno(t, "s.Send without a tag", s.Send("", false), api.ErrTag)
	wantErrno(t, "r.Grant(2, false)", r.Grant(2, false), api.OK)
	f := r.Fields(7)
	if want := (api.Perform{Kind: api.KFlow, NextIn: -1, Handle: 7, Count: 4294967295, Credit: 2, Available: -1}); told(f) != told(want) {
		t.Fatalf("r.Fields(7): %s, want %s", told(f), told(want))
	}
	wantErrno(t, "s.Flow", s.Flow(f), api.OK)
	wantStands(t, "s.Flow", s, api.LinkState{Name: "l", Count: 4294967295, Credit: 2})
	wantErrno(t, "s.Send t", s.Send("t", false), api.OK)
	wantErrno(t, "s.Send t again", s.Send("t", false), api.ErrTwice)
	wantErrno(t, "s.Send u", s.Send("u", true), api.OK)
	wantStands(t, "s.Send u", s, api.LinkState{Name: "l", Count: 1, Unsettled: 1})
	wantErrno(t, "r.Grant(0, false)", r.Grant(0, false), api.OK)
	wantErrno(t, "r.Got t", r.Got("t", false), api.OK)
	wantErrno(t, "r.Got u", r.Got("u", true), api.OK)
	wantErrno(t, "r.Got v", r.Got("v", true), api.ErrCredit)
	wantStands(t, "r.Got v", r, api.LinkState{Name: "l", Receiver: true, Count: 1, Unsettled: 1})
}

func exampleStates(t *testing.T, s, r *link.Link) {
	wantErrno(t, "r.Own", r.Own("t", accepted, false), api.OK)
	wantPeer(t, s, "t", accepted, false, true, api.OK)
	wantPeer(t, s, "t", accepted, false, false, api.OK)
	wantLook(t, s, "t", api.State{}, accepted, true)
	wantUnsettled(t, s, api.Unsettled{Tag: "t"})
	wantResume(t, s, nil, api.Resumed{Tag: "t", What: api.ResForget})
	wantResume(t, s, []api.Unsettled{{Tag: "t", State: accepted}}, api.Resumed{Tag: "t", What: api.ResSettle})
	wantResume(t, s, []api.Unsettled{{Tag: "t", State: received}}, api.Resumed{Tag: "t", What: api.ResSend})
	wantResume(t, r, nil, api.Resumed{Tag: "t", What: api.ResForget})
	wantErrno(t, "s.Own", s.Own("t", api.State{}, true), api.OK)
	wantErrno(t, "s.Own again", s.Own("t", api.State{}, true), api.ErrNone)
}

func exampleDrain(t *testing.T, s, r *link.Link) {
	wantErrno(t, "r.Grant(3, true)", r.Grant(3, true), api.OK)
	wantErrno(t, "s.Flow", s.Flow(r.Fields(7)), api.OK)
	if !s.Drained() {
		t.Error("s.Drained(): false")
	}
	wantStands(t, "s.Drained", s, api.LinkState{Name: "l", Count: 4, Drain: true})
	if s.Drained() {
		t.Error("s.Drained() again: true")
	}
	wantErrno(t, "r.Flow", r.Flow(s.Fields(9)), api.OK)
	wantStands(t, "r.Flow", r, api.LinkState{Name: "l", Receiver: true, Count: 4, Unsettled: 1})
}

func TestNumbers(t *testing.T) {
	for _, c := range []struct {
		name      string
		got, want int
	}{
		{"MaxWord", api.MaxWord, 4294967295}, {"MaxName", api.MaxName, 64}, {"MaxTag", api.MaxTag, 32}, {"KFlow", api.KFlow, 19},
		{"SndOpen", api.SndOpen, 0}, {"SndSettled", api.SndSettled, 1}, {"SndMixed", api.SndMixed, 2}, {"RcvFirst", api.RcvFirst, 0}, {"RcvSecond", api.RcvSecond, 1},
		{"ResForget", api.ResForget, 1}, {"ResSettle", api.ResSettle, 2}, {"ResSend", api.ResSend, 3}, {"ResWait", api.ResWait, 4},
		{"ErrArg", int(api.ErrArg), 1}, {"ErrState", int(api.ErrState), 4}, {"ErrTag", int(api.ErrTag), 122}, {"ErrCredit", int(api.ErrCredit), 140}, {"ErrMode", int(api.ErrMode), 141}, {"ErrTwice", int(api.ErrTwice), 142}, {"ErrNone", int(api.ErrNone), 143},
	} {
		if c.got != c.want {
			t.Errorf("%s: %d, want %d", c.name, c.got, c.want)
		}
	}
}
