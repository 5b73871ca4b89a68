package session_test

import (
	"fmt"
	"math/rand"
	"runtime"
	"slices"
	"strings"
	"testing"
	"weak"

	"longshore/api"
	"longshore/session"
)

// listed is a performative with lists wherever it may have some, with room behind them in which marks stand.
func listed(p api.Perform) api.Perform {
	values := func() []api.Value { return []api.Value{{Num: 1}, {Num: 2}, {Num: 3}}[:1] }
	state := func() api.State {
		return api.State{Fault: api.Fault{Info: api.Value{List: values()}}, Ann: api.Value{List: values()}, Inner: []api.State{{Kind: 1}, {Kind: 2}}[:1]}
	}
	terminus := func() api.Terminus {
		return api.Terminus{Default: state(), Outcomes: []string{"a", "b"}[:1], Caps: []string{"c", "d"}[:0]}
	}
	p.Props, p.Source, p.Target, p.State = api.Value{List: values()}, terminus(), terminus(), state()
	p.Unsettled, p.Fault = []api.Unsettled{{Tag: "t", State: state()}, {Tag: "u"}}[:1], api.Fault{Info: api.Value{List: values()}}
	return p
}

// withRoom is such a performative as text, with what stands in the room behind its lists.
func withRoom(p api.Perform) string {
	s := told(p)
	for _, l := range [][]api.Value{p.Props.List, p.Fault.Info.List, p.State.Ann.List, p.State.Fault.Info.List, p.Source.Default.Ann.List, p.Target.Default.Fault.Info.List} {
		s += told(l[:cap(l)])
	}
	return s + told(p.Unsettled[:cap(p.Unsettled)]) + told(p.State.Inner[:cap(p.State.Inner)]) + told(p.Source.Outcomes[:cap(p.Source.Outcomes)]) + told(p.Target.Caps[:cap(p.Target.Caps)])
}

// scribble overwrites lists of such a performative, with their room.
func scribble(p api.Perform) {
	for _, l := range [][]api.Value{p.Props.List, p.Fault.Info.List, p.State.Ann.List} {
		for i := range l[:cap(l)] {
			l[:cap(l)][i] = api.Value{Num: 99}
		}
	}
	p.Unsettled[0].Tag, p.State.Inner[0].Kind, p.Source.Outcomes[0] = "scribbled", 99, "scribbled"
}

// DOC.md's R2, P13.14: performatives stay as they were, with their room, also where they are refused; nothing hangs on them behind the call.
func TestPerformativesStay(t *testing.T) {
	own, peer := listed(begin(5, 2, 10, 3)), listed(begin(7, 3, 11, 3))
	flows := []api.Perform{listed(flow(5, 6, 7, 8)), listed(flow(9, 6, 7, 8)), listed(flow(-2, 6, 7, 8)), listed(flow(-1, 6, 9, 8))}
	all := append([]api.Perform{own, peer}, flows...)
	var before []string
	for _, p := range all {
		before = append(before, withRoom(p))
	}
	played := func(after func(p api.Perform)) string {
		s := started(t, own)
		after(own)
		s.Flow(flows[0])
		answers := fmt.Sprint(s.Peer(flows[0]), s.Peer(peer), s.Peer(peer))
		after(peer)
		for _, p := range flows {
			answers += fmt.Sprint(s.Flow(p))
			after(p)
		}
		return answers + probed(s)
	}
	want := played(func(api.Perform) {})
	for i, p := range all {
		if got := withRoom(p); got != before[i] {
			t.Errorf("handed in, it is %s, before: %s", got, before[i])
		}
	}
	if got := played(scribble); got != want {
		t.Errorf("scribbled over behind each call: %s, want %s", got, want)
	}
}

// DOC.md's R2, P13.14: what Range answers is new memory each time, its room too.
func TestRangesAreNew(t *testing.T) {
	s := linked(t, 3)
	for i := range 100 {
		wantDeliver(t, s, i%3, fmt.Sprint("s", i), false, i, api.OK)
		wantErrno(t, "Arrive", s.Arrive(serial(i-50), i%3, fmt.Sprint("r", i), false), api.OK)
	}
	before := seen(s)
	spans := [][2]int{{0, 0}, {0, 1}, {0, 20}, {0, 49}, {0, 1000}, {3, 70}, {maxWord - 49, 49}, {maxWord - 100, mostRoom - 200}, {500, 600}, {7, 3}, {-1, 5}}
	for _, sending := range []bool{true, false} {
		var answers, copies [][]api.Pending
		for range 2 {
			for _, span := range spans {
				l := s.Range(sending, span[0], span[1])
				answers, copies = append(answers, l), append(copies, slices.Clone(l[:cap(l)]))
			}
		}
		for i, l := range answers {
			if !slices.Equal(l[:cap(l)], copies[i]) {
				t.Fatalf("an answer changed when others were scribbled over: %v, before: %v", l[:cap(l)], copies[i])
			}
			for k := range l[:cap(l)] {
				l[:cap(l)][k] = api.Pending{Id: 77, Handle: 77, Tag: "scribbled"}
			}
			if after := seen(s); after != before {
				t.Fatalf("scribbled over an answer: %s, before: %s", after, before)
			}
		}
	}
}

// DOC.md's R3: where there is none, the list is empty.
func TestRangesOfNone(t *testing.T) {
	for _, s := range []*session.Session{started(t, begin(1, 2, 3, 4)), linked(t, 3), busy(t)} {
		for _, sending := range []bool{true, false} {
			for _, span := range [][2]int{{100, 200}, {1000, 1000}, {9, 8}, {-1, 0}, {0, maxWord + 1}} {
				if l := s.Range(sending, span[0], span[1]); len(l) != 0 {
					t.Errorf("Range(%v, %d, %d): %v", sending, span[0], span[1], l)
				}
			}
		}
	}
}

// P13.14: two sessions have nothing in common: what is done at the one is not seen at the other one.
func TestTwoSessions(t *testing.T) {
	own, peer := begin(5, 6, 7, 8), begin(9, 10, 11, 12)
	a, b := started(t, own), started(t, own)
	fresh := seen(b)
	wantErrno(t, "Peer", a.Peer(peer), api.OK)
	wantHandle(t, a, 0, api.OK)
	wantErrno(t, "Remote", a.Remote(3, 0), api.OK)
	wantDeliver(t, a, 0, "t", false, 0, api.OK)
	wantErrno(t, "Arrive", a.Arrive(4, 0, "u", false), api.OK)
	wantErrno(t, "Sent", a.Sent(), api.OK)
	wantErrno(t, "Got", a.Got(), api.OK)
	wantErrno(t, "Widen", a.Widen(50), api.OK)
	wantErrno(t, "Flow", a.Flow(flow(6, 7, 20, 30)), api.OK)
	if got := seen(b); got != fresh {
		t.Errorf("%s, before: %s", got, fresh)
	}
	kept := seen(a)
	if got, want := probed(b), probed(started(t, own)); got != want {
		t.Errorf("%s, want %s", got, want)
	}
	if got := seen(a); got != kept {
		t.Errorf("%s, before: %s", got, kept)
	}
}

// DOC.md's R6, P13.14: the same calls, the same answers, whatever was called at others.
func TestSameCallsSameAnswers(t *testing.T) {
	play := func(seed int64) string {
		r := rand.New(rand.NewSource(seed))
		s := started(t, begin(near(r, 0)&maxWord, 6, 7, 8))
		var b strings.Builder
		for range 400 {
			a := anyCall(r, s.State())
			b.WriteString(a.call(s) + looked(s, 0, 100, 3))
		}
		return b.String()
	}
	for seed := range int64(20) {
		first := play(seed)
		play(seed + 100)
		if play(seed) != first {
			t.Errorf("seed %d: other answers to the same calls", seed)
		}
	}
}

// inUse is how many bytes are in use.
func inUse() uint64 {
	var m runtime.MemStats
	runtime.GC()
	runtime.ReadMemStats(&m)
	return m.HeapAlloc
}

// LANGUAGE.md's rule 8: the tags of what is settled, refused, forgotten or freed are not kept.
func TestTagsAreNotKept(t *testing.T) {
	s := linked(t, 3)
	const size = 1 << 23
	before := inUse()
	for i, call := range []func(tag string){
		func(tag string) { s.Deliver(0, tag, true) },
		func(tag string) { s.Deliver(60, tag, false) },
		func(tag string) { s.Arrive(1, 0, tag, true) },
		func(tag string) { s.Arrive(-1, 0, tag, false) },
		func(tag string) { s.Arrive(2, 60, tag, false) },
		func(tag string) { id, _ := s.Deliver(0, tag, false); s.Forget(true, id) },
		func(tag string) { s.Arrive(3, 0, tag, false); s.Forget(false, 3) },
		func(tag string) { s.Deliver(1, tag, false); s.Arrive(4, 1, tag, false); s.Free(1) },
	} {
		call(strings.Repeat("t", size))
		if after := inUse(); after > before+size/2 {
			t.Errorf("call %d: %d bytes are in use, before: %d", i, after, before)
		}
		if st := s.State(); st.Sending != 0 || st.Receiving != 0 {
			t.Errorf("call %d: %+v", i, st)
		}
	}
	runtime.KeepAlive(s)
}

// DOC.md's R2: performatives are not kept.
func TestPerformativesAreNotKept(t *testing.T) {
	s, lists := over(t, listed(begin(5, 6, 7, 8)), listed(begin(9, 10, 11, 12)), listed(flow(5, 6, 7, 8)))
	runtime.GC()
	for i, list := range lists {
		if list.Value() != nil {
			t.Errorf("the list of the performative %d is kept", i)
		}
	}
	runtime.KeepAlive(s)
}

// over is a session that was given these, and the lists in them, as long as somebody has them.
func over(t *testing.T, own, peer, said api.Perform) (*session.Session, []weak.Pointer[api.Value]) {
	s := up(t, own, peer)
	wantErrno(t, "Flow", s.Flow(said), api.OK)
	return s, []weak.Pointer[api.Value]{weak.Make(&own.Props.List[0]), weak.Make(&peer.Props.List[0]), weak.Make(&said.Props.List[0])}
}

// DOC.md's R1: every call ends and none panics, at all arguments.
func TestExtremes(t *testing.T) {
	numbers := slices.Concat(words, noWords)
	for _, made := range []func() *session.Session{func() *session.Session { return started(t, begin(maxWord, maxWord, maxWord, maxWord)) }, func() *session.Session { return busy(t) }} {
		s := made()
		for _, a := range numbers {
			for _, b := range numbers {
				s.Flow(flow(a, b, b, a))
				s.Flow(flow(b, maxWord, a, a))
				s.Arrive(a, b, "t", a > b)
				s.Range(true, a, b)
				s.Range(false, a, b)
				s.Remote(a, b)
			}
			s.Deliver(a, "t", a > 5)
			s.Forget(a > 5, a)
			s.Local(a)
			s.Widen(a)
		}
		for _, a := range numbers {
			s.Free(a)
		}
		st := s.State()
		for _, n := range []int{st.NextOut, st.OutWin, st.NextIn, st.InWin, st.RemoteIn, st.RemoteOut, st.NextDelivery, st.HandleMax, st.RemoteHandle} {
			if !isWord(n) {
				t.Errorf("%+v", st)
			}
		}
	}
}
