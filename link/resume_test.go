package link_test

import (
	"fmt"
	"math/rand"
	"slices"
	"testing"

	"longshore/api"
	"longshore/link"
)

// P14.8: each cell of the table, with each state there, and each that the peer, or we, said of it here.
func TestResumeByTheTable(t *testing.T) {
	said := append([]api.State{{}}, anyStates()...)
	for _, role := range []bool{false, true} {
		for i, heard := range said {
			for j, there := range slices.Concat(said, nothing()) {
				l := holding(t, config(role, api.SndMixed, api.RcvFirst, 0), "t")
				wantErrno(t, "Own", l.Own("t", said[(i+j)%len(said)], false), api.OK) // that does not matter
				wantPeer(t, l, "t", heard, false, heard.Kind != 0, api.OK)
				both, here, alone := api.ResSend, api.ResSend, api.ResSettle
				if final(there) {
					both = api.ResSettle
				}
				if final(heard) {
					here = api.ResForget
				}
				if role {
					both, here, alone = api.ResWait, api.ResForget, api.ResWait
				}
				wantResume(t, l, []api.Unsettled{{Tag: "t", State: there}}, api.Resumed{Tag: "t", What: both})
				wantResume(t, l, nil, api.Resumed{Tag: "t", What: here})
				wantResume(t, l, []api.Unsettled{{Tag: "u", State: there}}, api.Resumed{Tag: "t", What: here}, api.Resumed{Tag: "u", What: alone})
			}
		}
	}
}

// P14.8: just four kinds of states are outcomes; what is within a transactional one is none.
func TestResumeOutcomes(t *testing.T) {
	for kind := -1; kind < 130; kind++ {
		l := holding(t, config(false, api.SndMixed, api.RcvFirst, 0), "t", "u")
		s := api.State{Kind: kind, Inner: []api.State{accepted}}
		wantPeer(t, l, "u", s, false, kind != 0, api.OK)
		there, here := api.ResSend, api.ResSend
		if slices.Contains([]int{api.KAccepted, api.KRejected, api.KReleased, api.KModified}, kind) {
			there, here = api.ResSettle, api.ResForget
		}
		wantResume(t, l, []api.Unsettled{{Tag: "t", State: s}}, api.Resumed{Tag: "t", What: there}, api.Resumed{Tag: "u", What: here})
	}
}

// P14.8: of a tag that stands there twice the first one counts, whatever stands between.
func TestResumeTwice(t *testing.T) {
	for _, c := range []struct {
		there []api.State
		want  int
	}{
		{[]api.State{accepted, {}}, api.ResSettle}, {[]api.State{{}, accepted}, api.ResSend}, {[]api.State{received, accepted, accepted}, api.ResSend}, {[]api.State{accepted, received, received}, api.ResSettle},
	} {
		var peer []api.Unsettled
		for _, s := range c.there {
			peer = append(peer, api.Unsettled{Tag: "t", State: s}, api.Unsettled{Tag: "u", State: s})
		}
		s := holding(t, config(false, api.SndMixed, api.RcvFirst, 0), "t")
		wantResume(t, s, peer, api.Resumed{Tag: "t", What: c.want}, api.Resumed{Tag: "u", What: api.ResSettle})
		r := holding(t, config(true, api.SndMixed, api.RcvFirst, 0), "t")
		wantResume(t, r, peer, api.Resumed{Tag: "t", What: api.ResWait}, api.Resumed{Tag: "u", What: api.ResWait})
	}
}

// P14.8: nothing here and there; tags there that no delivery here could have.
func TestResumeOfNone(t *testing.T) {
	for _, role := range []bool{false, true} {
		l := made(t, config(role, api.SndMixed, api.RcvFirst, 0))
		wantResume(t, l, nil)
		wantResume(t, l, []api.Unsettled{})
		what := api.ResSettle
		if role {
			what = api.ResWait
		}
		wantResume(t, l, []api.Unsettled{{Tag: long(33)}, {Tag: ""}, {Tag: "\xff", State: accepted}, {Tag: long(1000), State: received}},
			api.Resumed{Tag: "", What: what}, api.Resumed{Tag: long(33), What: what}, api.Resumed{Tag: long(1000), What: what}, api.Resumed{Tag: "\xff", What: what})
	}
}

// P14.8: what was settled here is not here any more.
func TestResumeBehindASettlement(t *testing.T) {
	s := holding(t, config(false, api.SndMixed, api.RcvFirst, 0), "t", "u")
	wantErrno(t, "Own", s.Own("t", accepted, true), api.OK)
	wantResume(t, s, []api.Unsettled{{Tag: "u"}, {Tag: "t"}}, api.Resumed{Tag: "t", What: api.ResSettle}, api.Resumed{Tag: "u", What: api.ResSend})
	r := holding(t, config(true, api.SndMixed, api.RcvFirst, 0), "t", "u")
	wantPeer(t, r, "t", accepted, true, true, api.OK)
	wantResume(t, r, []api.Unsettled{{Tag: "t"}}, api.Resumed{Tag: "t", What: api.ResWait}, api.Resumed{Tag: "u", What: api.ResForget})
}

// P14.8: many tags, here and there mixed in any order, are told by rising tags; the modes and the credit don't matter.
func TestResumeInOrder(t *testing.T) {
	r := rand.New(rand.NewSource(148))
	states := append([]api.State{{}}, anyStates()...)
	for _, c := range allConfigs() {
		if c.SndMode == api.SndSettled {
			continue
		}
		for range 60 {
			l, m := made(t, c), newModel(c)
			for _, x := range []calls{l, m} {
				x.Grant(20, false)
				x.Flow(flow(0, 20, -1, false))
			}
			for range r.Intn(20) {
				tag := fmt.Sprint(r.Intn(25))
				for _, x := range []calls{l, m} {
					x.Send(tag, false)
					x.Got(tag, false)
				}
				heard, own := states[r.Intn(len(states))], states[r.Intn(len(states))]
				for _, x := range []calls{l, m} {
					x.Peer(tag, heard, false)
					x.Own(tag, own, false)
				}
			}
			var peer []api.Unsettled
			for range r.Intn(20) {
				peer = append(peer, api.Unsettled{Tag: fmt.Sprint(r.Intn(25)), State: states[r.Intn(len(states))]})
			}
			before := seen(l)
			want := m.Resume(peer)
			if !slices.IsSortedFunc(want, func(a, b api.Resumed) int { return slices.Compare([]byte(a.Tag), []byte(b.Tag)) }) {
				t.Fatalf("the model's are not sorted: %v", want)
			}
			wantResume(t, l, peer, want...)
			if after := seen(l); after != before {
				t.Fatalf("behind Resume: %s, before: %s", after, before)
			}
		}
	}
}

// P14.8: Resume of both ends of a link that was cut: what the sender sends again, or settles, the receiver waits for.
func TestResumeOfBothEnds(t *testing.T) {
	for _, c := range []struct {
		what      string
		got, said bool // at the receiver
		heard     bool // at the sender
		done      bool // at the receiver
		want      int  // at the sender
	}{
		{"lost on its way", false, false, false, false, api.ResSend},
		{"come, nothing said", true, false, false, false, api.ResSend},
		{"come, said, not heard", true, true, false, false, api.ResSettle},
		{"come, said, heard", true, true, true, false, api.ResSettle},
		{"settled there, heard", true, true, true, true, api.ResForget},
	} {
		s, r := holding(t, config(false, api.SndMixed, api.RcvFirst, 0), "t"), receiver(t, 0)
		if c.got {
			r = holding(t, config(true, api.SndMixed, api.RcvFirst, 0), "t")
		}
		if c.said {
			wantErrno(t, "Own", r.Own("t", accepted, c.done), api.OK)
		}
		if c.heard {
			wantPeer(t, s, "t", accepted, false, true, api.OK)
		}
		wantResumedAs(t, c.what, s, r, c.want)
		wantResumedAs(t, c.what, r, s, api.ResWait)
	}
}

// wantResumedAs wants what becomes of the one delivery, by what the other end has left.
func wantResumedAs(t *testing.T, what string, l, other *link.Link, want int) {
	t.Helper()
	if got := l.Resume(other.Unsettled()); len(got) != 1 || got[0] != (api.Resumed{Tag: "t", What: want}) {
		t.Errorf("%s: %v, want %d", what, got, want)
	}
}
