package link_test

import (
	"fmt"
	"math"
	"slices"
	"testing"

	"longshore/api"
	"longshore/link"
)

// P14.1: what a link may be made with, each thing at its edges.
func TestNew(t *testing.T) {
	type turn = func(c *api.LinkConfig, n int)
	name := func(c *api.LinkConfig, n int) { c.Name = long(n) }
	snd := func(c *api.LinkConfig, n int) { c.SndMode = n }
	rcv := func(c *api.LinkConfig, n int) { c.RcvMode = n }
	first := func(c *api.LinkConfig, n int) { c.InitialCount = n }
	most := func(c *api.LinkConfig, n int) { c.MaxMessage = n }
	wide := []int{math.MinInt, math.MinInt + 1, -maxWord - 1, -maxWord}
	for _, c := range []struct {
		what        string
		turn        turn
		may, mayNot []int
	}{
		{"Name", name, []int{0, 1, 63, 64}, []int{65, 66, 128, 320, 100000}},
		{"SndMode", snd, []int{0, 1, 2}, append([]int{-1, -2, 3, 4, maxWord + 1, 1<<32 + 1, math.MaxInt}, wide...)},
		{"RcvMode", rcv, []int{0, 1}, append([]int{-1, -2, 2, 3, maxWord + 1, 1<<32 + 1, math.MaxInt}, wide...)},
		{"InitialCount", first, []int{0, 1, mostCredit, mostCredit + 1, maxWord - 1, maxWord}, append([]int{-1, -2, maxWord + 1, maxWord + 2, math.MaxInt}, wide...)},
		{"MaxMessage", most, []int{0, 1, api.MaxMessage, api.MaxMessage + 1, maxWord + 1, math.MaxInt}, append([]int{-1, -2}, wide...)},
	} {
		for _, base := range allConfigs() {
			for _, n := range c.may {
				config := base
				c.turn(&config, n)
				wantNew(t, config)
			}
			for _, n := range c.mayNot {
				config := base
				c.turn(&config, n)
				if link.New(config) != nil {
					t.Errorf("New with %s %d: not nil", c.what, n)
				}
			}
		}
	}
}

// wantNew wants a link that stands as it must at first, without deliveries, without credit.
func wantNew(t *testing.T, c api.LinkConfig) {
	t.Helper()
	l := made(t, c)
	wantStands(t, "New", l, api.LinkState{Name: c.Name, Receiver: c.Receiver, Count: c.InitialCount})
	wantUnsettled(t, l)
	wantResume(t, l, nil)
	wantLook(t, l, "t", api.State{}, api.State{}, false)
	if l.Drained() {
		t.Errorf("New(%s): it drains", told(c))
	}
	wantErrno(t, "the first delivery", deliver(l, "t", true), api.ErrCredit)
}

// P14.1: a name's bytes count, not its characters; it may have any.
func TestNewNames(t *testing.T) {
	for _, name := range []string{"", "\xff\x00", "\u20ac", long(61) + "\u20ac", "a b"} {
		wantNew(t, api.LinkConfig{Name: name})
	}
	if link.New(api.LinkConfig{Name: long(62) + "\u20ac"}) != nil {
		t.Error("New with a name of 63 characters and 65 bytes: not nil")
	}
}

// P14.9: Fields of either role, with any handle; nothing but what is named is said.
func TestFields(t *testing.T) {
	for _, c := range allConfigs() {
		l := busy(t, c)
		before, st := seen(l), l.See()
		for _, handle := range slices.Concat(words, noWords) {
			want := api.Perform{Kind: api.KFlow, NextIn: -1, Handle: handle, Count: 1, Credit: 3, Available: 9, Drain: true}
			if c.Receiver {
				want.Available = -1
			}
			if got := l.Fields(handle); told(got) != told(want) || st.Count != 1 || st.Credit != 3 || st.Available != 9 || !st.Drain {
				t.Fatalf("Fields(%d): %s, want %s, of %+v", handle, told(got), told(want), st)
			}
		}
		if after := seen(l); after != before {
			t.Errorf("behind Fields: %s, before: %s", after, before)
		}
	}
}

// P14.9: See tells how many deliveries are not settled.
func TestSeeCounts(t *testing.T) {
	for _, role := range []bool{false, true} {
		l := made(t, config(role, api.SndMixed, api.RcvFirst, maxWord))
		give(t, l, 300)
		for i := range 200 {
			wantErrno(t, "a delivery", deliver(l, fmt.Sprint("t", i), i%4 == 3), api.OK)
			if st := l.See(); st.Unsettled != i+1-(i+1)/4 || st.Count != i || st.Credit != 299-i {
				t.Fatalf("behind %d: %+v", i, st)
			}
		}
		for i := range 200 {
			if i%4 != 3 {
				wantErrno(t, "Own", l.Own(fmt.Sprint("t", i), accepted, true), api.OK)
			}
		}
		wantStands(t, "all settled", l, api.LinkState{Name: "l", Receiver: role, Count: 199, Credit: 100})
	}
}

// P14.7, P14.8, P14.9: Look, Unsettled, Resume, Fields and See change nothing.
func TestLooksChangeNothing(t *testing.T) {
	for _, c := range allConfigs() {
		l := busy(t, c)
		before := seen(l)
		for range 3 {
			l.Look("a")
			l.Look("none")
			l.Unsettled()
			l.Resume([]api.Unsettled{{Tag: "b", State: accepted}, {Tag: "z"}, {Tag: "a", State: received}})
			l.Fields(-7)
			l.See()
		}
		if after := seen(l); after != before {
			t.Errorf("%s, before: %s", after, before)
		}
		if got, want := probed(l), probed(busy(t, c)); got != want {
			t.Errorf("%s, want %s", got, want)
		}
	}
}
