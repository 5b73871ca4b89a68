package link_test

import (
	"fmt"
	"math/rand"
	"slices"
	"testing"

	"longshore/api"
	"longshore/link"
)

// goodTags and badTags are tags at the edges of what may be one; their bytes count, and they may have any.
var (
	goodTags = []string{"t", "\x00", "\xff", " ", "tt", long(31), long(32), "\u20ac", long(29) + "\u20ac", "\x00\x00"}
	badTags  = []string{"", long(33), long(34), long(64), long(1000), long(30) + "\u20ac"}
)

// P14.5: the other role's call is refused, whatever else is wrong.
func TestOtherRole(t *testing.T) {
	for _, c := range allConfigs() {
		for _, tag := range []string{"t", "", long(33), "a"} {
			for _, settled := range []bool{false, true} {
				other := func(l *link.Link) api.Errno { return l.Got(tag, settled) }
				if c.Receiver {
					other = func(l *link.Link) api.Errno { return l.Send(tag, settled) }
				}
				wantRefused(t, "the other role's", func() *link.Link { return busy(t, c) }, api.ErrState, other)
				wantRefused(t, "the other role's", func() *link.Link { return made(t, c) }, api.ErrState, other)
			}
		}
	}
}

// P14.5: which tags may be; ErrTag is ahead of all that follows.
func TestTags(t *testing.T) {
	for _, c := range allConfigs() {
		for _, tag := range badTags {
			for _, settled := range []bool{false, true} {
				call := func(l *link.Link) api.Errno { return deliver(l, tag, settled) }
				wantRefused(t, "a bad tag", func() *link.Link { return busy(t, c) }, api.ErrTag, call)
				wantRefused(t, "a bad tag, no credit", func() *link.Link { return made(t, c) }, api.ErrTag, call)
			}
		}
		l := made(t, c)
		give(t, l, len(goodTags))
		for _, tag := range goodTags {
			wantErrno(t, "a good tag", deliver(l, tag, c.SndMode == api.SndSettled), api.OK)
		}
	}
}

// P14.5: without credit nothing is sent; ErrCredit is ahead of ErrTwice and ErrMode.
func TestNoCredit(t *testing.T) {
	for _, c := range allConfigs() {
		again := func() *link.Link {
			l := made(t, c)
			give(t, l, 1)
			wantErrno(t, "a delivery", deliver(l, "t", c.SndMode == api.SndSettled), api.OK)
			return l
		}
		for _, tag := range []string{"t", "u"} {
			for _, settled := range []bool{false, true} {
				call := func(l *link.Link) api.Errno { return deliver(l, tag, settled) }
				wantRefused(t, "without credit", again, api.ErrCredit, call)
				wantRefused(t, "without any credit yet", func() *link.Link { return made(t, c) }, api.ErrCredit, call)
			}
		}
	}
}

// P14.5: a receiver goes by its bound, not by its credit; a sender by its credit.
func TestCreditTakenBack(t *testing.T) {
	for _, first := range []int{0, maxWord - 1, maxWord, mostCredit} {
		r := receiver(t, first)
		wantErrno(t, "Grant", r.Grant(3, true), api.OK)
		wantErrno(t, "Got", r.Got("a", true), api.OK)
		wantErrno(t, "Grant", r.Grant(0, true), api.OK)
		for i, tag := range []string{"b", "c"} {
			wantErrno(t, "Got, under way", r.Got(tag, false), api.OK)
			wantStands(t, "under way", r, api.LinkState{Name: "l", Receiver: true, Count: serial(first + i + 2), Unsettled: i + 1})
		}
		wantErrno(t, "Got at the bound", r.Got("d", true), api.ErrCredit)
		s := sender(t, first)
		wantErrno(t, "Flow", s.Flow(flow(first, 3, -1, false)), api.OK)
		wantErrno(t, "Send", s.Send("a", true), api.OK)
		wantErrno(t, "Flow", s.Flow(flow(first, 0, -1, false)), api.OK)
		wantErrno(t, "Send without credit", s.Send("b", true), api.ErrCredit)
	}
}

// P14.5: a tag that is in use; ErrTwice is ahead of ErrMode. Settled, it is free again.
func TestTwice(t *testing.T) {
	for _, c := range allConfigs() {
		if c.SndMode == api.SndSettled {
			continue // no delivery is unsettled there
		}
		for _, settled := range []bool{false, true} {
			for _, tag := range []string{"a", "b", "c"} {
				wantRefused(t, "twice", func() *link.Link { return busy(t, c) }, api.ErrTwice, func(l *link.Link) api.Errno { return deliver(l, tag, settled) })
			}
		}
		l := busy(t, c)
		if c.RcvMode == api.RcvSecond && c.Receiver {
			wantPeer(t, l, "a", api.State{}, true, true, api.OK)
		} else {
			wantErrno(t, "Own", l.Own("a", api.State{}, true), api.OK)
		}
		wantErrno(t, "the tag again", deliver(l, "a", false), api.OK)
		wantLook(t, l, "a", api.State{}, api.State{}, true)
	}
}

// P14.5: a tag that was settled from the first is never in use.
func TestSettledTwice(t *testing.T) {
	for _, role := range []bool{false, true} {
		for _, snd := range []int{api.SndSettled, api.SndMixed} {
			l := made(t, config(role, snd, api.RcvFirst, 0))
			give(t, l, 3)
			for range 3 {
				wantErrno(t, "settled", deliver(l, "t", true), api.OK)
				wantLook(t, l, "t", api.State{}, api.State{}, false)
				wantErrno(t, "Own", l.Own("t", accepted, false), api.ErrNone)
			}
		}
	}
}

// P14.5: each mode, settled and not; behind a delivery the count is one more, the credit and the Available are one less each.
func TestModes(t *testing.T) {
	for _, c := range allConfigs() {
		for _, settled := range []bool{false, true} {
			if settled && c.SndMode == api.SndOpen || !settled && c.SndMode == api.SndSettled {
				wantRefused(t, "against the mode", func() *link.Link { return busy(t, c) }, api.ErrMode, func(l *link.Link) api.Errno { return deliver(l, "t", settled) })
				continue
			}
			l := busy(t, c)
			want := l.See()
			for i := range 3 {
				wantErrno(t, "a delivery", deliver(l, fmt.Sprint("t", i), settled), api.OK)
				want.Count, want.Credit, want.Available = want.Count+1, want.Credit-1, want.Available-1
				if !settled {
					want.Unsettled++
				}
				// Used up, a receiver's Drain is over, not a sender's.
				want.Drain = want.Credit > 0 || !c.Receiver
				wantStands(t, "a delivery", l, want)
				wantLook(t, l, fmt.Sprint("t", i), api.State{}, api.State{}, !settled)
			}
		}
	}
}

// P14.5: the Available is not below 0.
func TestAvailableAtZero(t *testing.T) {
	for _, role := range []bool{false, true} {
		l := made(t, config(role, api.SndMixed, api.RcvFirst, maxWord))
		give(t, l, 4)
		if role {
			wantErrno(t, "Flow", l.Flow(flow(-1, -1, 2, false)), api.OK)
		} else {
			wantErrno(t, "Available", l.Available(2), api.OK)
		}
		for i, want := range []int{1, 0, 0, 0} {
			wantErrno(t, "a delivery", deliver(l, "t", true), api.OK)
			wantStands(t, "a delivery", l, api.LinkState{Name: "l", Receiver: role, Count: i, Credit: 3 - i, Available: want})
		}
	}
}

// P14.6: of no such delivery nothing can be said; ErrNone is ahead of ErrMode.
func TestNoSuchDelivery(t *testing.T) {
	for _, c := range allConfigs() {
		again := func() *link.Link { return busy(t, c) }
		for _, tag := range append([]string{"t", "A", "aa", "a\x00", " a"}, badTags...) {
			for _, settled := range []bool{false, true} {
				for _, s := range []api.State{{}, accepted} {
					wantRefused(t, "Own", again, api.ErrNone, func(l *link.Link) api.Errno { return l.Own(tag, s, settled) })
					wantRefused(t, "Peer", again, api.ErrNone, func(l *link.Link) api.Errno {
						news, e := l.Peer(tag, s, settled)
						if news {
							t.Error("news of no delivery")
						}
						return e
					})
				}
				wantLook(t, again(), tag, api.State{}, api.State{}, false)
			}
		}
	}
}

// P14.6: who may settle, by role and mode. A receiver in RcvSecond may not: neither ours nor the peer's.
func TestWhoMaySettle(t *testing.T) {
	for _, c := range allConfigs() {
		if c.SndMode == api.SndSettled {
			continue
		}
		for _, s := range []api.State{{}, accepted, received} {
			again := func() *link.Link { return busy(t, c) }
			if c.Receiver && c.RcvMode == api.RcvSecond {
				wantRefused(t, "Own, settled", again, api.ErrMode, func(l *link.Link) api.Errno { return l.Own("a", s, true) })
			} else {
				l := again()
				wantErrno(t, "Own, settled", l.Own("a", s, true), api.OK)
				wantForgotten(t, l, "a")
			}
			if !c.Receiver && c.RcvMode == api.RcvSecond {
				wantRefused(t, "Peer, settled", again, api.ErrMode, func(l *link.Link) api.Errno {
					news, e := l.Peer("a", s, true)
					if news {
						t.Error("news of what is refused")
					}
					return e
				})
			} else {
				l := again()
				wantPeer(t, l, "a", s, true, true, api.OK)
				wantForgotten(t, l, "a")
			}
			l := again()
			wantErrno(t, "Own", l.Own("a", s, false), api.OK)
			if _, e := l.Peer("a", s, false); e != api.OK {
				t.Errorf("Peer: %d", e)
			}
			if l.See().Unsettled != 3 {
				t.Errorf("%+v", l.See())
			}
		}
	}
}

// wantForgotten wants that of three deliveries one is not there any more, and the others are as they were.
func wantForgotten(t *testing.T, l *link.Link, tag string) {
	t.Helper()
	wantLook(t, l, tag, api.State{}, api.State{}, false)
	wantErrno(t, "Own", l.Own(tag, accepted, true), api.ErrNone)
	if _, e := l.Peer(tag, accepted, true); e != api.ErrNone {
		t.Errorf("Peer: %d", e)
	}
	wantUnsettled(t, l, api.Unsettled{Tag: "b", State: anyStates()[2]}, api.Unsettled{Tag: "c", State: anyStates()[7]})
	wantLook(t, l, "b", anyStates()[2], anyStates()[0], true)
	wantLook(t, l, "c", anyStates()[7], anyStates()[1], true)
	if st := l.See(); st.Unsettled != 2 || st.Count != 1 || st.Credit != 3 || st.Available != 9 || !st.Drain {
		t.Errorf("%+v", st)
	}
}

// P14.6: what is said last is what is said; of the Kind 0 nothing is; the other side's, and other deliveries', stay.
func TestWhatIsSaid(t *testing.T) {
	for _, role := range []bool{false, true} {
		l := holding(t, config(role, api.SndOpen, api.RcvFirst, 5), "t", "u")
		var own, peer api.State
		r := rand.New(rand.NewSource(146))
		for range 600 {
			s := anyStates()[r.Intn(len(anyStates()))]
			if r.Intn(3) == 0 {
				s = nothing()[r.Intn(len(nothing()))]
			}
			if r.Intn(2) == 0 {
				wantErrno(t, "Own", l.Own("t", s, false), api.OK)
				if s.Kind != 0 {
					own = s
				}
			} else {
				wantPeer(t, l, "t", s, false, s.Kind != 0 && !sameState(s, peer), api.OK)
				if s.Kind != 0 {
					peer = s
				}
			}
			wantLook(t, l, "t", own, peer, true)
			wantLook(t, l, "u", api.State{}, api.State{}, true)
			wantUnsettled(t, l, api.Unsettled{Tag: "t", State: own}, api.Unsettled{Tag: "u"})
		}
		wantStands(t, "said much", l, api.LinkState{Name: "l", Receiver: role, Count: 7, Unsettled: 2})
	}
}

// P14.6: what counts as news: any state, if none was said; another one; none, the same again never; settled always.
func TestNews(t *testing.T) {
	all := anyStates()
	for i, first := range all {
		for j, second := range anyStates() {
			l := holding(t, config(i%2 == 0, api.SndMixed, api.RcvFirst, 0), "t")
			wantErrno(t, "Own", l.Own("t", second, false), api.OK) // what we say is nothing to what the peer says
			wantPeer(t, l, "t", nothing()[j%len(nothing())], false, false, api.OK)
			wantPeer(t, l, "t", first, false, true, api.OK)
			wantPeer(t, l, "t", nothing()[i%len(nothing())], false, false, api.OK)
			wantPeer(t, l, "t", first, false, false, api.OK)
			wantPeer(t, l, "t", second, false, i != j, api.OK)
			wantPeer(t, l, "t", second, false, false, api.OK)
			wantPeer(t, l, "t", first, false, i != j, api.OK)
			wantPeer(t, l, "t", first, true, true, api.OK)
			wantPeer(t, l, "t", first, true, false, api.ErrNone)
		}
	}
	for _, s := range slices.Concat(nothing(), all) {
		l := holding(t, config(false, api.SndMixed, api.RcvFirst, 0), "t")
		wantPeer(t, l, "t", s, true, true, api.OK)
	}
}

// P14.6, DOC.md's R3: a list that is empty and none are the same: no news.
func TestNewsOfEmptyLists(t *testing.T) {
	l := holding(t, config(false, api.SndMixed, api.RcvFirst, 0), "t")
	wantPeer(t, l, "t", accepted, false, true, api.OK)
	for _, s := range []api.State{
		{Kind: api.KAccepted, Inner: []api.State{}}, {Kind: api.KAccepted, Inner: make([]api.State, 0, 3)}, {Kind: api.KAccepted, Ann: api.Value{List: []api.Value{}}}, {Kind: api.KAccepted, Fault: api.Fault{Info: api.Value{List: make([]api.Value, 0, 2)}}},
	} {
		wantPeer(t, l, "t", s, false, false, api.OK)
		wantPeer(t, l, "t", accepted, false, false, api.OK)
		wantErrno(t, "Own", l.Own("t", s, false), api.OK)
		wantLook(t, l, "t", accepted, accepted, true)
	}
}

// P14.7: Unsettled tells by rising tags, by their bytes, whichever way they came and went.
func TestUnsettledInOrder(t *testing.T) {
	tags := []string{"\x00", "\x00\x00", " ", "0", "00", "1", "10", "2", "A", "B", "a", "aa", "ab", "b", long(31), long(32), "z", "\x7f", "\x80", "\xc3\xa9", "\xe2\x82\xac", "\xff", "\xff\x00", "\xff\xff"}
	if !slices.IsSorted(tags) {
		t.Fatal("the tags are not sorted by their bytes")
	}
	r := rand.New(rand.NewSource(147))
	for _, role := range []bool{false, true} {
		for range 50 {
			order := r.Perm(len(tags))
			var came []string
			for _, i := range order {
				came = append(came, tags[i])
			}
			l := holding(t, config(role, api.SndMixed, api.RcvFirst, maxWord-5), came...)
			for i, tag := range tags {
				wantErrno(t, "Own", l.Own(tag, api.State{Kind: api.KReceived, Offset: i}, false), api.OK)
				wantPeer(t, l, tag, accepted, false, true, api.OK)
			}
			kept := slices.Clone(tags)
			for _, i := range r.Perm(len(tags)) {
				var want []api.Unsettled
				for _, tag := range kept {
					want = append(want, api.Unsettled{Tag: tag, State: api.State{Kind: api.KReceived, Offset: slices.Index(tags, tag)}})
				}
				wantUnsettled(t, l, want...)
				wantErrno(t, "Own", l.Own(tags[i], accepted, true), api.OK)
				kept = slices.DeleteFunc(kept, func(tag string) bool { return tag == tags[i] })
			}
			wantUnsettled(t, l)
		}
	}
}
