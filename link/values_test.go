package link_test

import (
	"fmt"
	"math"
	"slices"
	"strings"
	"testing"

	"longshore/api"
	"longshore/link"
	"longshore/sample"
)

// maxWord and mostCredit are said anew, not asked of the program.
const (
	maxWord    = 4294967295
	mostCredit = 2147483647
)

// words are numbers at which a word, a Gap or a credit ends; noWords are numbers next to them, or such as are alike modulo 2^32.
var (
	words   = []int{0, 1, 2, 5, 31, 32, 33, 64, 1000, mostCredit - 1, mostCredit, mostCredit + 1, mostCredit + 2, maxWord - 1, maxWord}
	noWords = []int{-1, -2, maxWord + 1, maxWord + 2, -mostCredit, -mostCredit - 1, -maxWord, -maxWord - 1, -maxWord - 2, 1<<32 + 5, 1 << 62, math.MinInt, math.MinInt + 1, math.MaxInt - 1, math.MaxInt}
)

// kindsBut are kinds of composites, and what is none, without one of them.
func kindsBut(kind int) []int {
	l := []int{0, -1, 1, 15, 25, api.KFault, api.KAccepted, api.KSource, api.KBody, kind + 256, kind + 1<<32, -kind, math.MinInt, math.MaxInt}
	for k := api.KOpen; k <= api.KClose; k++ {
		l = append(l, k)
	}
	return slices.DeleteFunc(l, func(k int) bool { return k == kind })
}

var (
	accepted = api.State{Kind: api.KAccepted}
	received = api.State{Kind: api.KReceived, Section: 1, Offset: 70000}
)

func long(n int) string { return strings.Repeat("x", n) }

// nested is a map with lists in it, so many levels deep in all.
func nested(levels int) api.Value {
	return sample.Pairs(sample.Text(api.Symbol, "k"), sample.Within(levels-2, sample.Num(api.Uint, 7)))
}

// outcomes and others are states that may be, of each kind, with lists in them where the kind has such.
func outcomes() []api.State {
	fault := api.Fault{Cond: "not-found", Text: "why", Info: nested(3)}
	return []api.State{accepted, {Kind: api.KReleased}, {Kind: api.KRejected}, {Kind: api.KRejected, Fault: fault}, {Kind: api.KModified}, {Kind: api.KModified, Failed: true}, {Kind: api.KModified, Elsewhere: true}, {Kind: api.KModified, Failed: true, Elsewhere: true, Ann: nested(4)}}
}

func others() []api.State {
	l := []api.State{received, {Kind: api.KReceived}, {Kind: api.KDeclared, Txn: "t1"}, {Kind: api.KTransactional, Txn: long(32)}}
	for _, s := range outcomes() {
		l = append(l, api.State{Kind: api.KTransactional, Txn: "t", Inner: []api.State{s}})
	}
	return l
}

// odd are states that may not be: they are taken as they are, as whether one may be is not looked at. Of the Kind 0 they are none.
func odd() []api.State {
	return []api.State{
		{Kind: -1}, {Kind: 99, Txn: long(100)}, {Kind: api.KAccepted, Section: -1, Offset: -7}, {Kind: api.KAccepted, Failed: true, Ann: sample.Num(api.Null, 1)}, {Kind: api.KReceived, Ann: api.Value{Elem: 1}}, {Kind: api.KReleased, Txn: "t"}, {Kind: api.KFault}, {Kind: math.MaxInt}, {Kind: math.MinInt},
		{Kind: api.KModified, Ann: api.Value{List: []api.Value{nested(2), nested(2)}}},
		{Kind: api.KDeclared, Inner: []api.State{{}}}, {Kind: api.KAccepted, Inner: []api.State{{Inner: []api.State{{Ann: nested(3)}, {Fault: api.Fault{Info: nested(4)}}}}, accepted}},
	}
}

// nothing are states of the Kind 0: whatever else they say, they say nothing.
func nothing() []api.State {
	return []api.State{{}, {Failed: true, Elsewhere: true}, {Section: 5, Offset: 6, Txn: "t"}, {Ann: nested(3), Fault: api.Fault{Cond: "x", Info: nested(2)}}, {Inner: []api.State{accepted}}, {Inner: []api.State{}}}
}

func anyStates() []api.State { return slices.Concat(outcomes(), others(), odd()) }

func told(x any) string { return fmt.Sprintf("%+v", x) }

// sameState tells whether two states are alike in all fields; it doesn't ask the program.
func sameState(a, b api.State) bool {
	return a.Kind == b.Kind && a.Section == b.Section && a.Offset == b.Offset && a.Fault.Cond == b.Fault.Cond && a.Fault.Text == b.Fault.Text && sample.Same(a.Fault.Info, b.Fault.Info) &&
		a.Failed == b.Failed && a.Elsewhere == b.Elsewhere && sample.Same(a.Ann, b.Ann) && a.Txn == b.Txn && slices.EqualFunc(a.Inner, b.Inner, sameState)
}

func sameUnsettled(a, b api.Unsettled) bool { return a.Tag == b.Tag && sameState(a.State, b.State) }

// The states above are all different, and seen to be.
func TestStatesDiffer(t *testing.T) {
	l := anyStates()
	for i, a := range l {
		for j, b := range anyStates() {
			if sameState(a, b) != (i == j) || (told(a) == told(b)) != (i == j) {
				t.Errorf("%s and %s", told(a), told(b))
			}
		}
	}
}

// config is what a link is made with: its role, its modes and its InitialCount.
func config(receiver bool, snd, rcv, first int) api.LinkConfig {
	return api.LinkConfig{Name: "l", Receiver: receiver, SndMode: snd, RcvMode: rcv, InitialCount: first}
}

func made(t *testing.T, c api.LinkConfig) *link.Link {
	t.Helper()
	l := link.New(c)
	if l == nil {
		t.Fatalf("New(%s): nil", told(c))
	}
	return l
}

// sender and receiver take whatever is settled or not.
func sender(t *testing.T, first int) *link.Link {
	t.Helper()
	return made(t, config(false, api.SndMixed, api.RcvFirst, first))
}

func receiver(t *testing.T, first int) *link.Link {
	t.Helper()
	return made(t, config(true, api.SndMixed, api.RcvFirst, first))
}

// flow is a Flow of a link; -1 is: not said.
func flow(count, credit, available int, drain bool) api.Perform {
	return api.Perform{Kind: api.KFlow, NextIn: -1, Handle: 3, Count: count, Credit: credit, Available: available, Drain: drain}
}

// give lets a link have so much credit, and asks for no drain; it goes by the link's count.
func give(t *testing.T, l *link.Link, credit int) {
	t.Helper()
	if st := l.See(); st.Receiver {
		wantErrno(t, "Grant", l.Grant(credit, false), api.OK)
	} else {
		wantErrno(t, "Flow", l.Flow(flow(st.Count, credit, -1, false)), api.OK)
	}
}

// deliver is Send of a sender, Got of a receiver.
func deliver(l *link.Link, tag string, settled bool) api.Errno {
	if l.See().Receiver {
		return l.Got(tag, settled)
	}
	return l.Send(tag, settled)
}

// holding is a link with unsettled deliveries of these tags, of which nothing was said.
func holding(t *testing.T, c api.LinkConfig, tags ...string) *link.Link {
	t.Helper()
	l := made(t, c)
	give(t, l, len(tags))
	for _, tag := range tags {
		wantErrno(t, "a delivery", deliver(l, tag, false), api.OK)
	}
	return l
}

func wantErrno(t *testing.T, what string, got, want api.Errno) {
	t.Helper()
	if got != want {
		t.Fatalf("%s: %d, want %d", what, got, want)
	}
}

func wantPeer(t *testing.T, l *link.Link, tag string, s api.State, settled, want bool, wantE api.Errno) {
	t.Helper()
	if news, e := l.Peer(tag, s, settled); news != want || e != wantE {
		t.Fatalf("Peer(%q, %s, %v): %v, %d, want %v, %d", tag, told(s), settled, news, e, want, wantE)
	}
}

func wantLook(t *testing.T, l *link.Link, tag string, own, peer api.State, want bool) {
	t.Helper()
	if a, b, is := l.Look(tag); !sameState(a, own) || !sameState(b, peer) || is != want {
		t.Fatalf("Look(%q): %s, %s, %v, want %s, %s, %v", tag, told(a), told(b), is, told(own), told(peer), want)
	}
}

func wantUnsettled(t *testing.T, l *link.Link, want ...api.Unsettled) {
	t.Helper()
	if got := l.Unsettled(); !slices.EqualFunc(got, want, sameUnsettled) {
		t.Fatalf("Unsettled(): %s, want %s", told(got), told(want))
	}
}

func wantResume(t *testing.T, l *link.Link, peer []api.Unsettled, want ...api.Resumed) {
	t.Helper()
	if got := l.Resume(peer); !slices.Equal(got, want) {
		t.Fatalf("Resume(%s): %v, want %v", told(peer), got, want)
	}
}

// wantStands wants this of See, and of Fields what they say of it.
func wantStands(t *testing.T, what string, l *link.Link, want api.LinkState) {
	t.Helper()
	if got := l.See(); got != want {
		t.Fatalf("%s: See(): %+v, want %+v", what, got, want)
	}
	fields := flow(want.Count, want.Credit, want.Available, want.Drain)
	if want.Receiver {
		fields.Available = -1
	}
	if got := l.Fields(3); told(got) != told(fields) {
		t.Fatalf("%s: Fields(3): %s, want %s", what, told(got), told(fields))
	}
}

// stands is a change of how something stood.
func stands(before api.LinkState, turn func(st *api.LinkState)) api.LinkState {
	turn(&before)
	return before
}

// seen is what can be seen of a link without a change of it.
func seen(l *link.Link) string {
	var b strings.Builder
	fmt.Fprintf(&b, "%+v %+v %+v", l.See(), l.Fields(5), l.Unsettled())
	for _, u := range l.Unsettled() {
		own, peer, is := l.Look(u.Tag)
		fmt.Fprintf(&b, " %q %+v %+v %v", u.Tag, own, peer, is)
	}
	fmt.Fprint(&b, l.Resume(nil))
	return b.String()
}

// probed is all that can be seen of a link, by calls that change it, too: the modes, the bound, the count from which it began.
func probed(l *link.Link) string {
	var b strings.Builder
	b.WriteString(seen(l))
	for _, u := range l.Unsettled() {
		news, e := l.Peer(u.Tag, accepted, false)
		fmt.Fprint(&b, news, e, l.Own(u.Tag, received, false))
	}
	fmt.Fprint(&b, l.Drained(), seen(l))
	for i := range 8 {
		fmt.Fprint(&b, l.Got(fmt.Sprint("probe", i), i%2 == 0), l.Send(fmt.Sprint("probe", i), i%2 == 0), l.See())
	}
	fmt.Fprint(&b, l.Flow(flow((l.See().Count+mostCredit)%(maxWord+1), -1, 3, true)), l.See())
	fmt.Fprint(&b, l.Flow(flow(-1, 70, -1, true)), l.Available(8), l.Grant(6, true), l.See())
	for i := range 8 {
		fmt.Fprint(&b, deliver(l, fmt.Sprint("later", i), i%2 == 0), l.See())
	}
	for _, u := range l.Unsettled() {
		news, e := l.Peer(u.Tag, api.State{}, true)
		fmt.Fprint(&b, news, e, l.Own(u.Tag, api.State{}, true), l.See())
	}
	return b.String()
}

// wantRefused wants an error of a call, and no change by it.
func wantRefused(t *testing.T, what string, again func() *link.Link, want api.Errno, call func(l *link.Link) api.Errno) {
	t.Helper()
	l := again()
	before := seen(l)
	wantErrno(t, what, call(l), want)
	if after := seen(l); after != before {
		t.Fatalf("%s: %s, before: %s", what, after, before)
	}
	if got, want := probed(l), probed(again()); got != want {
		t.Fatalf("%s: something has changed: %s, want %s", what, got, want)
	}
}

// busy is a link in the midst of things: the numbers have gone round, three deliveries are not settled, of which different things were said, three more may come, and Drain is on.
func busy(t *testing.T, c api.LinkConfig) *link.Link {
	t.Helper()
	c.InitialCount = maxWord - 1
	l := made(t, c)
	give(t, l, 4)
	for i, tag := range []string{"b", "c", "a"} {
		wantErrno(t, "a delivery", deliver(l, tag, c.SndMode == api.SndSettled), api.OK)
		if c.SndMode != api.SndSettled {
			wantErrno(t, "Own", l.Own(tag, anyStates()[5*i+2], false), api.OK)
			wantPeer(t, l, tag, anyStates()[i], false, true, api.OK)
		}
	}
	if c.Receiver {
		wantErrno(t, "Flow", l.Flow(flow(-1, -1, 9, false)), api.OK)
		wantErrno(t, "Grant", l.Grant(5, false), api.OK)
		wantErrno(t, "Grant", l.Grant(3, true), api.OK)
	} else {
		wantErrno(t, "Flow", l.Flow(flow(0, 4, -1, true)), api.OK)
		wantErrno(t, "Available", l.Available(9), api.OK)
	}
	return l
}

// allConfigs are all roles and modes.
func allConfigs() []api.LinkConfig {
	var l []api.LinkConfig
	for _, receiver := range []bool{false, true} {
		for snd := api.SndOpen; snd <= api.SndMixed; snd++ {
			for rcv := api.RcvFirst; rcv <= api.RcvSecond; rcv++ {
				l = append(l, config(receiver, snd, rcv, 0))
			}
		}
	}
	return l
}
