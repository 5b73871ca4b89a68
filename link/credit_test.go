package link_test

import (
	"slices"
	"testing"

	"longshore/api"
	"longshore/link"
)

// P14.2: which credit may be given, and by whom.
func TestGrantRefused(t *testing.T) {
	notCredits := append(slices.Clone(noWords), mostCredit+1, mostCredit+2, maxWord-1, maxWord)
	for _, c := range allConfigs() {
		again := func() *link.Link { return busy(t, c) }
		for _, drain := range []bool{false, true} {
			for _, n := range notCredits {
				want := api.ErrArg
				if !c.Receiver {
					want = api.ErrState // ahead of ErrArg
				}
				wantRefused(t, "Grant", again, want, func(l *link.Link) api.Errno { return l.Grant(n, drain) })
			}
			if !c.Receiver {
				wantRefused(t, "Grant", again, api.ErrState, func(l *link.Link) api.Errno { return l.Grant(1, drain) })
			}
		}
	}
}

// P14.2: the credit is what was said last, Drain too, but not where there is no credit.
func TestGrant(t *testing.T) {
	for _, first := range []int{0, 7, mostCredit, mostCredit + 1, maxWord - 1, maxWord} {
		r := receiver(t, first)
		for _, credit := range []int{0, 1, 5, 0, mostCredit - 1, mostCredit, 2, mostCredit} {
			for _, drain := range []bool{true, false, true} {
				wantErrno(t, "Grant", r.Grant(credit, drain), api.OK)
				wantStands(t, "Grant", r, api.LinkState{Name: "l", Receiver: true, Count: first, Credit: credit, Drain: drain && credit > 0})
			}
		}
	}
}

// taken is how many deliveries a receiver takes till it refuses one for want of credit.
func taken(t *testing.T, r *link.Link, most int) int {
	t.Helper()
	for n := range most {
		if e := r.Got("t", true); e != api.OK {
			wantErrno(t, "Got", e, api.ErrCredit)
			return n
		}
	}
	return most
}

// P14.2, P14.5: the bound goes on to count + credit where that lies behind it, and else stays.
func TestBound(t *testing.T) {
	for _, first := range []int{0, 100, mostCredit - 2, mostCredit + 1, maxWord - 3, maxWord} {
		for _, c := range []struct {
			grants []int
			want   int
		}{
			{nil, 0}, {[]int{0}, 0}, {[]int{3}, 3}, {[]int{3, 0}, 3}, {[]int{3, 2}, 3}, {[]int{3, 3}, 3}, {[]int{3, 4}, 4}, {[]int{3, 0, 2, 4, 1, 0}, 4}, {[]int{0, 0, 1}, 1},
		} {
			r := receiver(t, first)
			for _, n := range c.grants {
				wantErrno(t, "Grant", r.Grant(n, false), api.OK)
			}
			if got := taken(t, r, 10); got != c.want {
				t.Errorf("first %d, grants %v: it takes %d, want %d", first, c.grants, got, c.want)
			}
			if st := r.See(); st.Count != serial(first+c.want) || st.Credit != 0 {
				t.Errorf("first %d, grants %v: %+v", first, c.grants, st)
			}
			// What was taken is not asked for anew: the bound goes on from the count.
			for _, n := range []int{2, 1} {
				wantErrno(t, "Grant", r.Grant(n, false), api.OK)
			}
			if got := taken(t, r, 10); got != 2 {
				t.Errorf("first %d, grants %v, then 2 and 1: it takes %d", first, c.grants, got)
			}
		}
	}
}

// P14.2: a bound far ahead: the greatest credit, of a count that has gone on, goes on too.
func TestBoundFarAhead(t *testing.T) {
	for _, first := range []int{0, mostCredit, mostCredit + 1, maxWord} {
		r := receiver(t, first)
		wantErrno(t, "Grant", r.Grant(mostCredit, false), api.OK)
		if got := taken(t, r, 3); got != 3 {
			t.Fatalf("it takes %d", got)
		}
		wantErrno(t, "Grant", r.Grant(0, false), api.OK)
		// The sender counts on to the bound, and beyond it.
		wantErrno(t, "Flow", r.Flow(flow(serial(first+3+mostCredit), -1, -1, false)), api.OK)
		wantStands(t, "at the bound", r, api.LinkState{Name: "l", Receiver: true, Count: serial(first + mostCredit)})
		wantErrno(t, "Got", r.Got("t", true), api.ErrCredit)
		wantErrno(t, "Grant", r.Grant(mostCredit, false), api.OK)
		wantErrno(t, "Flow", r.Flow(flow(serial(first+2*mostCredit), -1, -1, false)), api.OK)
		wantStands(t, "at the next bound", r, api.LinkState{Name: "l", Receiver: true, Count: serial(first + 2*mostCredit)})
	}
}

// P14.3: what is no Flow is refused, whatever it says, and changes nothing.
func TestFlowRefused(t *testing.T) {
	for _, c := range allConfigs() {
		for _, kind := range kindsBut(api.KFlow) {
			p := flow(2, 7, 6, false)
			p.Kind = kind
			wantRefused(t, "Flow", func() *link.Link { return busy(t, c) }, api.ErrArg, func(l *link.Link) api.Errno { return l.Flow(p) })
		}
	}
}

// P14.3: a sender's credit is what lies between its count and the receiver's count + credit.
func TestFlowToASender(t *testing.T) {
	for _, c := range []struct {
		first, sent   int
		count, credit int
		want          int
	}{
		{0, 0, 0, 0, 0}, {0, 0, 0, 1, 1}, {0, 0, 0, 2147483647, 2147483647}, {0, 0, 0, 2147483648, 0}, {0, 0, 0, 4294967295, 0}, {0, 0, 4294967295, 1, 0}, {0, 0, 4294967295, 2, 1},
		{0, 5, 0, 5, 0}, {0, 5, 0, 4, 0}, {0, 5, 0, 6, 1}, {0, 5, 3, 4, 2}, {0, 5, 5, 4, 4}, {0, 5, 6, 4, 5}, {0, 5, 7, 0, 2}, {0, 5, 4, 0, 0}, {0, 5, 4, 2147483648, 2147483647}, {0, 5, 4, 2147483649, 0},
		{4294967295, 0, 4294967295, 2, 2}, {4294967295, 0, 0, 2, 3}, {4294967295, 3, 4294967295, 2, 0}, {4294967295, 3, 4294967295, 5, 2}, {4294967290, 3, 4294967290, 10, 7},
		{2147483645, 3, 2147483645, 5, 2}, {2147483648, 0, 2147483648, 2147483647, 2147483647},
		// Where the Count is not said: from where the sender began.
		{0, 0, -1, 2, 2}, {0, 5, -1, 7, 2}, {0, 5, -1, 5, 0}, {0, 5, -1, 4, 0}, {4294967295, 3, -1, 5, 2}, {4294967290, 5, -1, 8, 3}, {7, 0, -1, 0, 0},
		// Numbers beyond a word: only what they are modulo 2^32 counts.
		{0, 5, 4294967296, 7, 2}, {0, 5, 4294967296 + 3, 4294967296 + 4, 2}, {0, 5, -4294967296, 7, 2}, {0, 5, -2, 10, 3}, {0, 5, 10, -2, 3}, {0, 5, 10, -4294967296 - 3, 2}, {0, 5, 10, -4294967297, 4}, {0, 5, -4294967297, 8, 2},
		{0, 5, 1<<62 + 3, 1<<62 + 4, 2}, {0, 5, 9223372036854775807, 8, 2}, {0, 5, 9223372036854775807, 9223372036854775807, 0}, {0, 5, -9223372036854775808, 8, 3}, {0, 5, -9223372036854775808, -9223372036854775807 + 8, 4}, {0, 5, 4294967295, 8, 2},
	} {
		for _, drain := range []bool{false, true} {
			s := sender(t, c.first)
			give(t, s, c.sent+1)
			for range c.sent {
				wantErrno(t, "Send", s.Send("t", true), api.OK)
			}
			wantErrno(t, "Available", s.Available(9), api.OK)
			wantErrno(t, "Flow", s.Flow(flow(c.count, c.credit, 4, drain)), api.OK)
			wantStands(t, told(c), s, api.LinkState{Name: "l", Count: serial(c.first + c.sent), Credit: c.want, Available: 9, Drain: drain})
		}
	}
}

// P14.3: where the Credit is not said, a sender takes nothing: neither credit nor Drain.
func TestFlowToASenderWithoutCredit(t *testing.T) {
	for _, drain := range []bool{false, true} {
		s := sender(t, 3)
		wantErrno(t, "Flow", s.Flow(flow(3, 5, -1, drain)), api.OK)
		want := api.LinkState{Name: "l", Count: 3, Credit: 5, Drain: drain}
		for _, count := range append([]int{-1, 3, 4, 7, 8, 9}, words...) {
			for _, other := range []bool{false, true} {
				wantErrno(t, "Flow", s.Flow(flow(count, -1, 8, other)), api.OK)
				wantStands(t, "Flow without Credit", s, want)
			}
		}
	}
}

// P14.3: Drain is taken and taken back, with credit and without; what else a Flow says is nothing to a sender.
func TestDrainToASender(t *testing.T) {
	s := sender(t, 3)
	for _, c := range []struct {
		credit int
		drain  bool
	}{{2, true}, {2, false}, {0, true}, {0, false}, {5, true}, {0, true}, {1, false}} {
		p := flow(3, c.credit, 77, c.drain)
		p.NextIn, p.InWin, p.NextOut, p.OutWin, p.Handle, p.Echo, p.InitialCount, p.Receiver, p.Settled = 8, 9, 10, 11, 12, true, 13, true, true
		wantErrno(t, "Flow", s.Flow(p), api.OK)
		wantStands(t, told(c), s, api.LinkState{Name: "l", Count: 3, Credit: c.credit, Drain: c.drain})
	}
	// A sender's Drain stays when its credit is used up.
	wantErrno(t, "Flow", s.Flow(flow(3, 1, -1, true)), api.OK)
	wantErrno(t, "Send", s.Send("t", true), api.OK)
	wantStands(t, "used up", s, api.LinkState{Name: "l", Count: 4, Drain: true})
}

// P14.3: a receiver takes how many deliveries wait at the sender.
func TestAvailableToAReceiver(t *testing.T) {
	r := receiver(t, 3)
	last := 0
	for _, c := range []struct{ said, want int }{
		{5, 5}, {-1, 5}, {0, 0}, {-1, 0}, {maxWord, maxWord}, {-1, maxWord}, {maxWord + 1, 0}, {maxWord + 3, 2}, {-2, maxWord - 1}, {-maxWord - 1, 0}, {-maxWord - 2, maxWord}, {-maxWord, 1}, {1<<62 + 7, 7}, {9223372036854775807, maxWord}, {-9223372036854775808, 0},
	} {
		for _, credit := range []int{-1, 0, 9} {
			wantErrno(t, "Flow", r.Flow(flow(-1, credit, c.said, true)), api.OK)
			wantStands(t, told(c), r, api.LinkState{Name: "l", Receiver: true, Count: 3, Available: c.want})
		}
		last = c.want
	}
	if st := r.See(); st.Available != last {
		t.Errorf("%+v", st)
	}
}

// P14.3: a receiver's count goes on to the sender's, but not beyond the bound, and never back; its credit is less by as many; without credit Drain is over.
func TestCountToAReceiver(t *testing.T) {
	for _, first := range []int{0, 100, mostCredit - 2, mostCredit, maxWord - 3, maxWord} {
		for _, c := range []struct {
			bound, credit int // the bound lies so far behind the count
			said          int // so far behind the count
			went          int
		}{
			{4, 4, 0, 0}, {4, 4, 1, 1}, {4, 4, 3, 3}, {4, 4, 4, 4}, {4, 4, 5, 4}, {4, 4, mostCredit, 4}, {4, 4, mostCredit + 1, 0}, {4, 4, -1, 0}, {4, 4, -4, 0}, {4, 4, -mostCredit, 0},
			{4, 2, 1, 1}, {4, 2, 2, 2}, {4, 2, 3, 3}, {4, 2, 4, 4}, {4, 2, 5, 4}, {4, 0, 3, 3}, {4, 0, 9, 4}, {4, 0, 0, 0},
			{0, 0, 0, 0}, {0, 0, 1, 0}, {0, 0, mostCredit, 0}, {0, 0, -1, 0}, {mostCredit, mostCredit, mostCredit, mostCredit}, {mostCredit, 1, mostCredit - 1, mostCredit - 1}, {mostCredit, mostCredit, mostCredit + 1, 0},
		} {
			for _, drain := range []bool{false, true} {
				for _, round := range []int{0, 1 << 32, -1 << 32, 1 << 62} {
					r := receiver(t, first)
					wantErrno(t, "Grant", r.Grant(c.bound, false), api.OK)
					wantErrno(t, "Grant", r.Grant(c.credit, drain), api.OK)
					said := serial(first+c.said) + round
					if said == -1 {
						continue // it would not be said
					}
					wantErrno(t, "Flow", r.Flow(flow(said, 7, -1, !drain)), api.OK)
					credit := max(0, c.credit-c.went)
					wantStands(t, told(c), r, api.LinkState{Name: "l", Receiver: true, Count: serial(first + c.went), Credit: credit, Drain: drain && credit > 0})
					if c.bound < 10 {
						if n := taken(t, r, 20); n != c.bound-c.went {
							t.Fatalf("%+v: it takes %d behind that", c, n)
						}
					}
				}
			}
		}
	}
}

// P14.3: a Count that is not said moves nothing, though it looks like the number ahead of 0; the word that it would be does.
func TestCountNotSaid(t *testing.T) {
	r := receiver(t, maxWord-2)
	wantErrno(t, "Grant", r.Grant(5, true), api.OK)
	want := api.LinkState{Name: "l", Receiver: true, Count: maxWord - 2, Credit: 5, Drain: true}
	wantErrno(t, "Flow", r.Flow(flow(-1, -1, -1, false)), api.OK)
	wantStands(t, "Count -1", r, want)
	want.Count, want.Credit = maxWord, 3
	wantErrno(t, "Flow", r.Flow(flow(maxWord, -1, -1, false)), api.OK)
	wantStands(t, "Count MaxWord", r, want)
	want.Count, want.Credit = 1, 1
	wantErrno(t, "Flow", r.Flow(flow(1<<32+1, -1, -1, false)), api.OK)
	wantStands(t, "Count 2^32 + 1", r, want)
	want.Count, want.Credit, want.Drain = 2, 0, false
	wantErrno(t, "Flow", r.Flow(flow(2-1<<32, -1, -1, true)), api.OK)
	wantStands(t, "Count 2 - 2^32", r, want)
}

// P14.3: the deliveries are nothing to a Flow.
func TestFlowLeavesDeliveries(t *testing.T) {
	for _, role := range []bool{false, true} {
		l := busy(t, config(role, api.SndMixed, api.RcvFirst, 0))
		before := told(l.Unsettled())
		for _, a := range slices.Concat(words, noWords) {
			for _, b := range slices.Concat(words, noWords) {
				wantErrno(t, "Flow", l.Flow(flow(a, b, a, a > b)), api.OK)
				wantErrno(t, "Flow", l.Flow(flow(b, a, a, a > b)), api.OK)
			}
		}
		if after := told(l.Unsettled()); after != before {
			t.Errorf("%s, before: %s", after, before)
		}
	}
}

// P14.4: which Available may be, and of whom.
func TestAvailableRefused(t *testing.T) {
	for _, c := range allConfigs() {
		for _, n := range noWords {
			want := api.ErrArg
			if c.Receiver {
				want = api.ErrState // ahead of ErrArg
			}
			wantRefused(t, "Available", func() *link.Link { return busy(t, c) }, want, func(l *link.Link) api.Errno { return l.Available(n) })
		}
		if c.Receiver {
			wantRefused(t, "Available", func() *link.Link { return busy(t, c) }, api.ErrState, func(l *link.Link) api.Errno { return l.Available(1) })
		}
	}
}

// P14.4: Available is what was said last.
func TestAvailable(t *testing.T) {
	s := sender(t, 3)
	for _, n := range append([]int{9, 0}, words...) {
		wantErrno(t, "Available", s.Available(n), api.OK)
		wantStands(t, "Available", s, api.LinkState{Name: "l", Count: 3, Available: n})
	}
}

// P14.4: of a sender whose Drain is on the credit is given up, once.
func TestDrained(t *testing.T) {
	for _, first := range []int{0, 100, mostCredit, maxWord - 2, maxWord} {
		for _, credit := range []int{0, 1, 2, 5, mostCredit} {
			for _, drain := range []bool{false, true} {
				s := sender(t, first)
				wantErrno(t, "Flow", s.Flow(flow(first, credit, -1, drain)), api.OK)
				wantErrno(t, "Available", s.Available(9), api.OK)
				want := api.LinkState{Name: "l", Count: first, Credit: credit, Available: 9, Drain: drain}
				for i := range 3 {
					drains := i == 0 && drain && credit > 0
					if drains {
						want.Count, want.Credit = serial(first+credit), 0
					}
					if got := s.Drained(); got != drains {
						t.Fatalf("credit %d, Drain %v: Drained() call %d: %v", credit, drain, i, got)
					}
					wantStands(t, "Drained", s, want)
				}
			}
		}
	}
}

// P14.4: a receiver drains nothing, and is not changed.
func TestDrainedOfAReceiver(t *testing.T) {
	for _, credit := range []int{0, 3} {
		for _, drain := range []bool{false, true} {
			r := receiver(t, 3)
			wantErrno(t, "Grant", r.Grant(credit, drain), api.OK)
			before := seen(r)
			if r.Drained() || seen(r) != before {
				t.Errorf("Drained(): %s, before: %s", seen(r), before)
			}
		}
	}
}

// P14.3, P14.4: behind a drain new credit is counted from where the count went on to.
func TestCreditBehindADrain(t *testing.T) {
	s := sender(t, maxWord)
	wantErrno(t, "Flow", s.Flow(flow(maxWord, 4, -1, true)), api.OK)
	if !s.Drained() {
		t.Fatal("Drained(): false")
	}
	wantErrno(t, "Flow", s.Flow(flow(maxWord, 4, -1, true)), api.OK)
	wantStands(t, "the same Flow again", s, api.LinkState{Name: "l", Count: 3, Drain: true})
	wantErrno(t, "Flow", s.Flow(flow(maxWord, 6, -1, true)), api.OK)
	wantStands(t, "two more", s, api.LinkState{Name: "l", Count: 3, Credit: 2, Drain: true})
	if !s.Drained() {
		t.Fatal("Drained(): false")
	}
	wantStands(t, "drained again", s, api.LinkState{Name: "l", Count: 5, Drain: true})
}
