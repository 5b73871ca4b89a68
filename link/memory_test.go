package link_test

import (
	"cmp"
	"fmt"
	"reflect"
	"runtime"
	"slices"
	"strings"
	"testing"
	"weak"

	"longshore/api"
	"longshore/link"
	"longshore/sample"
)

// lies is where a list lies, up to the end of its room.
type lies struct{ first, behind uintptr }

// places are where all lists in something lie, those that stand in the room behind others too.
func places(x any) []lies {
	var l []lies
	walk(reflect.ValueOf(x), func(list reflect.Value) {
		first := list.Pointer()
		l = append(l, lies{first, first + uintptr(list.Len())*list.Type().Elem().Size()})
	})
	return l
}

// walk tells of all lists in something, each up to the end of its room, ahead of what stands in it.
func walk(v reflect.Value, tell func(reflect.Value)) {
	switch v.Kind() {
	case reflect.Struct:
		for i := range v.NumField() {
			walk(v.Field(i), tell)
		}
	case reflect.Slice:
		if v.Cap() == 0 {
			return
		}
		list := v.Slice(0, v.Cap())
		tell(list)
		for i := range list.Len() {
			walk(list.Index(i), tell)
		}
	}
}

// apart tells whether no two lists share memory.
func apart(l ...[]lies) bool {
	all := slices.Concat(l...)
	slices.SortFunc(all, func(a, b lies) int { return cmp.Compare(a.first, b.first) })
	for i := 1; i < len(all); i++ {
		if all[i].first < all[i-1].behind {
			return false
		}
	}
	return true
}

// roomy is a copy all lists of which, empty ones too, have room to spare in which marks stand.
func roomy[T any](x T) T { return withMarks(reflect.ValueOf(x)).Interface().(T) }

func withMarks(v reflect.Value) reflect.Value {
	c := reflect.New(v.Type()).Elem()
	c.Set(v)
	switch v.Kind() {
	case reflect.Struct:
		for i := range v.NumField() {
			c.Field(i).Set(withMarks(v.Field(i)))
		}
	case reflect.Slice:
		n := v.Len()
		c.Set(reflect.MakeSlice(v.Type(), n+3, n+3))
		for i := range n {
			c.Index(i).Set(withMarks(v.Index(i)))
		}
		for i := n; i < n+3; i++ {
			mark(c.Index(i))
		}
		c.Set(c.Slice(0, n))
	}
	return c
}

// mark overwrites something that has no lists, or such as are not looked at.
func mark(v reflect.Value) {
	switch v.Kind() {
	case reflect.Struct:
		for i := range v.NumField() {
			mark(v.Field(i))
		}
	case reflect.String:
		v.SetString("mark")
	case reflect.Int:
		v.SetInt(77)
	case reflect.Uint64:
		v.SetUint(77)
	case reflect.Bool:
		v.SetBool(true)
	}
}

// scribble overwrites all lists in something, with their room.
func scribble(x any) {
	var all []reflect.Value
	walk(reflect.ValueOf(x), func(list reflect.Value) { all = append(all, list) })
	for _, list := range all {
		for i := range list.Len() {
			mark(list.Index(i))
		}
	}
}

// withRoom is something as text, with what stands in the room behind its lists.
func withRoom(x any) string {
	s := told(x)
	walk(reflect.ValueOf(x), func(list reflect.Value) { s += fmt.Sprintf(" %+v", list) })
	return s
}

// The helpers above see what they are to see.
func TestRoomIsSeen(t *testing.T) {
	for _, s := range anyStates() {
		c := roomy(s)
		before := withRoom(c)
		if !sameState(c, s) || !apart(places(c), places(s)) || apart(places(c), places(c)) {
			t.Errorf("a copy with room: %s", before)
		}
		c.Inner[:cap(c.Inner)][len(c.Inner)].Section++
		if !sameState(c, s) || withRoom(c) == before {
			t.Errorf("what changes in the room is not seen: %s", before)
		}
		scribble(c)
		if len(c.Inner) > 0 && c.Inner[0].Kind != 77 || len(c.Ann.List) > 0 && c.Ann.List[0].Text != "mark" || len(c.Fault.Info.List) > 0 && c.Fault.Info.List[0].Text != "mark" {
			t.Errorf("scribbled over: %s", withRoom(c))
		}
	}
}

// full is a state with lists wherever one may have some.
func full() api.State {
	return api.State{Kind: api.KModified, Ann: nested(4), Fault: api.Fault{Cond: "x", Info: nested(3)}, Txn: "t", Inner: []api.State{{Kind: api.KRejected, Fault: api.Fault{Info: nested(3)}, Inner: []api.State{{Ann: nested(3)}}}, accepted}}
}

// shared is a state whose lists are all the same one.
func shared() api.State {
	v := nested(3)
	inner := []api.State{{Kind: api.KModified, Ann: v, Fault: api.Fault{Info: v}}}
	return api.State{Kind: api.KModified, Ann: v, Fault: api.Fault{Info: v}, Inner: append(inner, api.State{Kind: api.KTransactional, Inner: inner})}
}

// states are those, and many others, each with room behind its lists.
func states() []api.State {
	l := []api.State{shared()}
	for _, s := range slices.Concat([]api.State{full()}, anyStates(), nothing()) {
		l = append(l, roomy(s))
	}
	return l
}

// DOC.md's R2, of Own and Peer: states stay as they were, with their room, also where they are refused; what is done with them behind the call is not seen.
func TestStatesStay(t *testing.T) {
	for _, c := range allConfigs() {
		if c.SndMode == api.SndSettled {
			continue
		}
		for i := range states() {
			own, peer := states()[i], states()[(i+7)%len(states())]
			before := withRoom([]api.State{own, peer})
			l := holding(t, c, "t", "u")
			l.Own("none", own, false)
			l.Own("u", own, true)
			l.Peer("none", peer, false)
			l.Peer("u", peer, true)
			wantErrno(t, "Own", l.Own("t", own, false), api.OK)
			wantPeer(t, l, "t", peer, false, peer.Kind != 0, api.OK)
			wantPeer(t, l, "t", peer, false, false, api.OK)
			if after := withRoom([]api.State{own, peer}); after != before {
				t.Fatalf("handed in, it is %s, before: %s", after, before)
			}
			kept := seen(l)
			scribble(own)
			scribble(peer)
			if after := seen(l); after != kept {
				t.Fatalf("scribbled over behind the call: %s, before: %s", after, kept)
			}
		}
	}
}

// DOC.md's R2, of Look and Unsettled: what comes out is new memory, which shares nothing with the link, with what was handed in, or with another answer, also by its room.
func TestAnswersAreNew(t *testing.T) {
	for _, role := range []bool{false, true} {
		for i := range states() {
			l := holding(t, config(role, api.SndMixed, api.RcvFirst, 0), "t", "u", "v")
			s, other := states()[i], roomy(full())
			for _, tag := range []string{"t", "u", "v"} {
				wantErrno(t, "Own", l.Own(tag, s, false), api.OK)
				wantPeer(t, l, tag, s, false, s.Kind != 0, api.OK)
			}
			wantErrno(t, "Own", l.Own("u", other, false), api.OK)
			before := seen(l)
			look := func() []api.Unsettled {
				own, peer, _ := l.Look("t")
				return []api.Unsettled{{State: own}, {State: peer}}
			}
			x := [][]api.Unsettled{look(), look(), l.Unsettled(), l.Unsettled()}
			handed := places(s)
			if !apart(handed) {
				handed = nil // shared by itself: the answers still must not share
			}
			if !apart(places(x), handed, places(other)) {
				t.Fatalf("answers share memory: %s", told(x))
			}
			scribble(x)
			if after := seen(l); after != before {
				t.Fatalf("scribbled over answers: %s, before: %s", after, before)
			}
			if !apart(places(look()), places(x)) {
				t.Fatal("a later answer shares memory with earlier ones")
			}
		}
	}
}

// DOC.md's R2, of answers one by one: one stays when another one is scribbled over.
func TestAnswersStay(t *testing.T) {
	l := holding(t, config(false, api.SndMixed, api.RcvFirst, 0), "t", "u")
	s := shared()
	for _, tag := range []string{"t", "u"} {
		wantErrno(t, "Own", l.Own(tag, s, false), api.OK)
		wantPeer(t, l, tag, s, false, true, api.OK)
	}
	first, second, _ := l.Look("t")
	list := l.Unsettled()
	want := withRoom(second)
	scribble(first)
	scribble(list[0].State)
	if withRoom(second) != want || !sameState(list[1].State, shared()) {
		t.Errorf("%s, %s", withRoom(second), told(list[1]))
	}
	wantErrno(t, "Own", l.Own("t", accepted, false), api.OK)
	wantPeer(t, l, "t", accepted, true, true, api.OK)
	if withRoom(second) != want || !sameState(list[1].State, shared()) {
		t.Errorf("behind later calls: %s, %s", withRoom(second), told(list[1]))
	}
}

// DOC.md's R2, of what is said a second time: the state that was said first is not written over.
func TestSaidAnew(t *testing.T) {
	l := holding(t, config(false, api.SndMixed, api.RcvFirst, 0), "t")
	wantPeer(t, l, "t", full(), false, true, api.OK)
	_, before, _ := l.Look("t")
	again := roomy(full())
	wantPeer(t, l, "t", again, false, false, api.OK)
	scribble(again) // the same: no news, but not to be kept either
	wantLook(t, l, "t", api.State{}, full(), true)
	wantPeer(t, l, "t", accepted, false, true, api.OK)
	if !sameState(before, full()) {
		t.Errorf("%s", told(before))
	}
}

// DOC.md's R2, of Resume: the list that is handed in stays, with its room; the answer is new each time.
func TestResumeIsNew(t *testing.T) {
	for _, role := range []bool{false, true} {
		l := holding(t, config(role, api.SndMixed, api.RcvFirst, 0), "t", "u", "v")
		wantPeer(t, l, "t", full(), false, true, api.OK)
		left := roomy([]api.Unsettled{{Tag: "u", State: full()}, {Tag: "z", State: shared()}, {Tag: "u"}, {Tag: "a"}})
		before, stood := withRoom(left), seen(l)
		first := l.Resume(left)
		want := slices.Clone(first[:cap(first)])
		second, none := l.Resume(left), l.Resume(nil)
		if !apart(places(first), places(second), places(none), places(left)) {
			t.Error("answers share memory")
		}
		scribble(second)
		scribble(none)
		if withRoom(left) != before || !slices.Equal(first[:cap(first)], want) || seen(l) != stood {
			t.Errorf("%s, before: %s; %v, want %v", withRoom(left), before, first, want)
		}
		scribble(left)
		if !slices.Equal(first[:cap(first)], want) || seen(l) != stood {
			t.Errorf("behind a scribble over what was handed in: %v, want %v", first, want)
		}
	}
}

// listed is a Flow with lists wherever a performative may have some, with room behind them.
func listed(p api.Perform) api.Perform {
	terminus := api.Terminus{Default: full(), Outcomes: []string{"a"}, Caps: []string{"c"}}
	p.Props, p.Source, p.Target, p.State, p.Fault = nested(3), terminus, terminus, full(), api.Fault{Cond: "x", Info: nested(3)}
	p.Unsettled = []api.Unsettled{{Tag: "t", State: full()}}
	return roomy(p)
}

// DOC.md's R2, of Flow: performatives stay as they were, with their room, also where they are refused; their lists don't matter.
func TestFlowsStay(t *testing.T) {
	refused := flow(1, 2, 3, true)
	refused.Kind = api.KAttach
	for _, c := range allConfigs() {
		for _, bare := range []api.Perform{flow(maxWord, 9, 5, true), flow(1, 2, 3, false), flow(-1, -1, -1, true), refused} {
			p := listed(bare)
			before := withRoom(p)
			l, other := busy(t, c), busy(t, c)
			wantErrno(t, "Flow", l.Flow(p), other.Flow(bare))
			if after := withRoom(p); after != before {
				t.Fatalf("handed in, it is %s, before: %s", after, before)
			}
			scribble(p)
			if got, want := probed(l), probed(other); got != want {
				t.Fatalf("%s, want %s", got, want)
			}
		}
	}
}

// DOC.md's R2: what Fields answers has no lists, and nothing in it.
func TestFieldsHaveNoLists(t *testing.T) {
	for _, c := range allConfigs() {
		if p := busy(t, c).Fields(1); len(places(p)) != 0 {
			t.Errorf("%s", told(p))
		}
	}
}

// DOC.md's R3: where there is none, the list is empty.
func TestListsOfNone(t *testing.T) {
	for _, c := range allConfigs() {
		l := made(t, c)
		if len(l.Unsettled()) != 0 || len(l.Resume(nil)) != 0 || len(l.Resume([]api.Unsettled{})) != 0 || len(l.Resume(make([]api.Unsettled, 0, 4))) != 0 {
			t.Errorf("%v, %v", l.Unsettled(), l.Resume(nil))
		}
	}
}

// inUse is how many bytes are in use.
func inUse() uint64 {
	var m runtime.MemStats
	runtime.GC()
	runtime.ReadMemStats(&m)
	return m.HeapAlloc
}

// LANGUAGE.md's rule 8: what was said of a delivery that is settled, what was refused, and what was said before, is not kept.
func TestForgottenIsNotKept(t *testing.T) {
	l := holding(t, config(false, api.SndMixed, api.RcvFirst, 0), "t", "u", "v", "w", "x")
	const size = 1 << 23
	big := func() api.State {
		return api.State{Kind: api.KModified, Ann: sample.Pairs(sample.Text(api.Symbol, "k"), sample.Text(api.Binary, strings.Repeat("b", size)))}
	}
	before := inUse()
	for i, call := range []func(s api.State){
		func(s api.State) { l.Own("none", s, false) },
		func(s api.State) { l.Own("t", s, true) },
		func(s api.State) { l.Peer("none", s, false) },
		func(s api.State) { l.Peer("u", s, true) },
		func(s api.State) { l.Own("v", s, false); l.Own("v", accepted, false) },
		func(s api.State) { l.Peer("v", s, false); l.Peer("v", accepted, false) },
		func(s api.State) { l.Own("w", s, false); l.Own("w", api.State{}, true) },
		func(s api.State) { l.Peer("x", s, false); l.Own("x", api.State{}, true) },
		func(s api.State) { l.Resume([]api.Unsettled{{Tag: "v", State: s}, {Tag: s.Ann.List[1].Text}}) },
		func(s api.State) { p := flow(0, 9, 9, false); p.State = s; l.Flow(p) },
		func(s api.State) { l.Send(s.Ann.List[1].Text, true); l.Send(s.Ann.List[1].Text, false) },
		func(s api.State) { l.Look(s.Ann.List[1].Text) },
	} {
		call(big())
		if after := inUse(); after > before+size/2 {
			t.Errorf("call %d: %d bytes are in use, before: %d", i, after, before)
		}
	}
	if st := l.See(); st.Unsettled != 1 {
		t.Errorf("%+v", st)
	}
	runtime.KeepAlive(l)
}

// DOC.md's R2: the lists that are handed in are not kept, though what stood in them is.
func TestListsAreNotKept(t *testing.T) {
	l := holding(t, config(false, api.SndMixed, api.RcvFirst, 0), "t")
	lists := handIn(t, l)
	runtime.GC()
	for i, list := range lists {
		if list.Value() != nil {
			t.Errorf("the list %d is kept", i)
		}
	}
	wantLook(t, l, "t", full(), full(), true)
}

// handIn tells a link of states, and answers the lists in them, as long as somebody has them.
func handIn(t *testing.T, l *link.Link) []weak.Pointer[api.Value] {
	own, peer, left, said := full(), full(), []api.Unsettled{{Tag: "t", State: full()}}, listed(flow(0, 9, -1, false))
	wantErrno(t, "Own", l.Own("t", own, false), api.OK)
	wantPeer(t, l, "t", peer, false, true, api.OK)
	wantErrno(t, "Flow", l.Flow(said), api.OK)
	l.Resume(left)
	var lists []weak.Pointer[api.Value]
	for _, s := range []api.State{own, peer, left[0].State, said.State} {
		lists = append(lists, weak.Make(&s.Ann.List[0]), weak.Make(&s.Fault.Info.List[0]), weak.Make(&s.Inner[0].Inner[0].Ann.List[0]))
	}
	return lists
}

// DOC.md's bound: states with many parts, nested deep, are kept and told as they are.
func TestDeepStates(t *testing.T) {
	deep := api.State{Kind: api.KModified, Ann: sample.Within(1<<14, sample.Num(api.Uint, 1))}
	for range 1 << 12 {
		deep = api.State{Kind: api.KTransactional, Inner: []api.State{deep}}
	}
	wide := api.State{Kind: api.KModified, Ann: sample.List(sample.Many(1<<16, sample.Num(api.Uint, 7))...)}
	for _, s := range []api.State{deep, wide} {
		l := holding(t, config(true, api.SndMixed, api.RcvFirst, 0), "t")
		wantErrno(t, "Own", l.Own("t", s, false), api.OK)
		wantPeer(t, l, "t", s, false, true, api.OK)
		wantPeer(t, l, "t", s, false, false, api.OK)
		wantLook(t, l, "t", s, s, true)
		wantUnsettled(t, l, api.Unsettled{Tag: "t", State: s})
	}
}
