package session_test

import (
	"testing"

	"longshore/api"
	"longshore/session"
)

// P13.4, P13.5, P13.6: ahead of the peer's Begin nothing is sent, and nothing comes, whatever else is wrong.
func TestAheadOfThePeersBegin(t *testing.T) {
	for _, own := range []api.Perform{begin(5, 2, 10, 1), begin(0, 0, 0, 0), begin(maxWord, maxWord, maxWord, maxWord)} {
		fresh := func() *session.Session { return started(t, own) }
		if n := fresh().Room(); n != 0 {
			t.Errorf("Room(): %d", n)
		}
		wantRefused(t, "Sent", fresh, api.ErrWindow, (*session.Session).Sent)
		wantRefused(t, "Got", fresh, api.ErrState, (*session.Session).Got)
		for _, p := range []api.Perform{flow(own.NextOut, 2, 3, 4), flow(-1, 2, 3, 4), flow(-2, 2, 3, 4), flow(own.NextOut, -1, 3, 4), flow(1<<31, 0, 0, 0), begin(1, 2, 3, 4), {}} {
			wantRefused(t, "Flow", fresh, api.ErrState, func(s *session.Session) api.Errno { return s.Flow(p) })
		}
		// The own window may be widened already, and the peer's Begin leaves it so.
		s := fresh()
		want := s.State()
		wantErrno(t, "Widen", s.Widen(3), api.OK)
		want.InWin = max(own.InWin, 3)
		wantStands(t, "Widen", s, want)
		wantErrno(t, "Peer", s.Peer(begin(7, 8, 9, 10)), api.OK)
		want.Peer, want.NextIn, want.RemoteIn, want.RemoteOut, want.RemoteHandle = true, 7, 8, 9, 10
		wantStands(t, "Peer behind Widen", s, want)
	}
}

// P13.4: Room is the lesser of RemoteIn and OutWin; Sent takes from RemoteIn alone, so that an OutWin that is less bounds nothing for good.
func TestRoomAndSent(t *testing.T) {
	for _, inWin := range []int{0, 1, 2, 3, 7} {
		for _, outWin := range []int{0, 1, 2, 3, 7, maxWord} {
			s := up(t, begin(maxWord-2, 9, outWin, 1), begin(11, inWin, 12, 1))
			want := s.State()
			sent := 0
			for min(inWin-sent, outWin) > 0 {
				wantErrno(t, "Sent", s.Sent(), api.OK)
				sent++
				want.NextOut, want.RemoteIn = (maxWord-2+sent)%(1<<32), inWin-sent
				wantStands(t, "Sent", s, want)
			}
			if sent != inWin && outWin > 0 || sent != 0 && outWin == 0 {
				t.Errorf("InWin %d, OutWin %d: %d were sent", inWin, outWin, sent)
			}
			for range 2 {
				wantErrno(t, "Sent without Room", s.Sent(), api.ErrWindow)
				wantStands(t, "Sent without Room", s, want)
			}
		}
	}
}

// P13.4: nothing is changed by a Sent that is refused.
func TestSentIsRefused(t *testing.T) {
	for _, c := range [][2]int{{0, 0}, {0, 5}, {5, 0}, {0, maxWord}, {maxWord, 0}} {
		made := func() *session.Session { return up(t, begin(5, 2, c[1], 1), begin(7, c[0], 11, 1)) }
		wantRefused(t, "Sent", made, api.ErrWindow, (*session.Session).Sent)
	}
	made := func() *session.Session {
		s := busy(t)
		for range 3 {
			wantErrno(t, "Sent", s.Sent(), api.OK)
		}
		return s
	}
	wantRefused(t, "Sent", made, api.ErrWindow, (*session.Session).Sent)
}

// P13.5: Got, down to InWin 0; RemoteOut stays at 0; NextIn goes round.
func TestGot(t *testing.T) {
	for _, inWin := range []int{0, 1, 2, 5} {
		for _, remoteOut := range []int{0, 1, 2, 9} {
			s := up(t, begin(5, inWin, 10, 1), begin(maxWord-1, 3, remoteOut, 1))
			want := s.State()
			for got := 1; got <= inWin; got++ {
				wantErrno(t, "Got", s.Got(), api.OK)
				want.NextIn, want.InWin, want.RemoteOut = (maxWord-1+got)%(1<<32), inWin-got, max(0, remoteOut-got)
				wantStands(t, "Got", s, want)
			}
			for range 2 {
				wantErrno(t, "Got without a window", s.Got(), api.ErrWindow)
				wantStands(t, "Got without a window", s, want)
			}
		}
	}
	made := func() *session.Session {
		s := busy(t)
		wantErrno(t, "Got", s.Got(), api.OK)
		return s
	}
	wantRefused(t, "Got", made, api.ErrWindow, (*session.Session).Got)
}

// P13.5: InWin is never less by Widen.
func TestWiden(t *testing.T) {
	for _, inWin := range words {
		for _, n := range words {
			s := up(t, begin(5, inWin, 10, 1), begin(7, 3, 11, 1))
			want := s.State()
			want.InWin = inWin
			if n > inWin {
				want.InWin = n
			}
			for range 2 {
				wantErrno(t, "Widen", s.Widen(n), api.OK)
				wantStands(t, "Widen", s, want)
			}
		}
	}
	for _, n := range noWords {
		for _, made := range []func() *session.Session{func() *session.Session { return busy(t) }, func() *session.Session { return started(t, begin(0, 0, 0, 0)) }, func() *session.Session { return started(t, begin(0, maxWord, 0, 0)) }} {
			wantRefused(t, "Widen", made, api.ErrArg, func(s *session.Session) api.Errno { return s.Widen(n) })
		}
	}
}

// P13.5: a window that was used up goes on behind Widen.
func TestGotBehindWiden(t *testing.T) {
	s := up(t, begin(5, 1, 10, 1), begin(7, 3, 11, 1))
	for i := range 5 {
		wantErrno(t, "Got", s.Got(), api.OK)
		wantErrno(t, "Got", s.Got(), api.ErrWindow)
		wantErrno(t, "Widen", s.Widen(1), api.OK)
		if st := s.State(); st.NextIn != 8+i || st.InWin != 1 || st.RemoteOut != 10-i {
			t.Errorf("%+v", st)
		}
	}
}

// sentSome is a session whose first number is this one, that has sent so many transfers, and whose NextIn is that.
func sentSome(t *testing.T, first, sent, nextIn int) *session.Session {
	t.Helper()
	s := up(t, begin(first, 20, maxWord, 1), begin(nextIn, 1000, 30, 1))
	for range sent {
		wantErrno(t, "Sent", s.Sent(), api.OK)
	}
	return s
}

// P13.6: ErrArg of each other kind and each number out of its bounds, ahead of ErrSeries.
func TestFlowThatMayNotBe(t *testing.T) {
	made := func() *session.Session { return sentSome(t, 5, 3, 7) }
	var wrong []api.Perform
	for _, good := range []api.Perform{flow(6, 5, 9, 10), flow(9, 5, 9, 10), flow(6, 1, 9, 10)} {
		for _, k := range kindsBut(api.KFlow) {
			wrong = append(wrong, turned(good, func(p *api.Perform) { p.Kind = k }))
		}
		for _, n := range noWords {
			wrong = append(wrong, turned(good, func(p *api.Perform) { p.InWin = n }), turned(good, func(p *api.Perform) { p.NextOut = n }), turned(good, func(p *api.Perform) { p.OutWin = n }))
			if n != -1 {
				wrong = append(wrong, turned(good, func(p *api.Perform) { p.NextIn = n }))
			}
		}
	}
	for _, p := range wrong {
		wantRefused(t, "Flow("+told(p)+")", made, api.ErrArg, func(s *session.Session) api.Errno { return s.Flow(p) })
	}
}

// P13.6: how many are ahead: 0 to what was sent, also where numbers go round; more than the peer's InWin, or a number that was not sent yet, is ErrSeries.
func TestFlowOfWhatWasHeard(t *testing.T) {
	for _, first := range []int{0, 5, mostRoom - 1, mostRoom, mostRoom + 1, maxWord - 2, maxWord - 1, maxWord} {
		for heard := -2; heard <= 6; heard++ {
			for _, inWin := range []int{0, 1, 2, 3, 4, 5, 6, 7, 100} {
				made := func() *session.Session { return sentSome(t, first, 4, 7) }
				p := flow((first+heard+1<<32)%(1<<32), inWin, 7, 8)
				// Below the first number the peer could not be, but nobody asks for that.
				ahead := 4 - heard
				if ahead < 0 || ahead > inWin {
					wantRefused(t, told(p), made, api.ErrSeries, func(s *session.Session) api.Errno { return s.Flow(p) })
					continue
				}
				s := made()
				want := s.State()
				wantErrno(t, "Flow", s.Flow(p), api.OK)
				want.RemoteIn, want.RemoteOut = inWin-ahead, 8
				wantStands(t, "Flow", s, want)
			}
		}
	}
}

// P13.6: a NextIn that is not said is the first number, for good.
func TestFlowAheadOfOurBegin(t *testing.T) {
	for _, first := range []int{0, 5, maxWord - 2, maxWord} {
		for sent := range 6 {
			for inWin := range 9 {
				made := func() *session.Session { return sentSome(t, first, sent, 7) }
				p := flow(-1, inWin, 7, 8)
				if sent > inWin {
					wantRefused(t, told(p), made, api.ErrSeries, func(s *session.Session) api.Errno { return s.Flow(p) })
					continue
				}
				s := made()
				want := s.State()
				wantErrno(t, "Flow", s.Flow(p), api.OK)
				want.RemoteIn, want.RemoteOut = inWin-sent, 8
				wantStands(t, "Flow", s, want)
				// What else was heard meanwhile doesn't change it.
				wantErrno(t, "Flow", s.Flow(flow((first+sent)%(1<<32), 1000, 7, 8)), api.OK)
				wantErrno(t, "Flow", s.Flow(p), api.OK)
				wantStands(t, "Flow", s, want)
			}
		}
	}
}

// P13.6: the bounds of a Gap, and of Most.
func TestFlowOfGreatWindows(t *testing.T) {
	for _, c := range []struct {
		heard, inWin, want int
		e                  api.Errno
	}{
		{1000, mostRoom, mostRoom, api.OK}, {1000, mostRoom + 1, mostRoom, api.OK}, {1000, maxWord, mostRoom, api.OK}, {1000, mostRoom - 1, mostRoom - 1, api.OK},
		{999, mostRoom, mostRoom - 1, api.OK}, {999, mostRoom + 1, mostRoom, api.OK}, {999, mostRoom + 2, mostRoom, api.OK}, {999, maxWord, mostRoom, api.OK},
		{mostRoom + 1002, maxWord, mostRoom, api.OK}, {mostRoom + 1002, mostRoom, 0, api.OK}, {mostRoom + 1002, mostRoom + 5, 5, api.OK}, {mostRoom + 1002, mostRoom - 1, 0, api.ErrSeries},
		{mostRoom + 1001, maxWord, 0, api.ErrSeries}, {mostRoom + 1000, maxWord, 0, api.ErrSeries}, {1001, maxWord, 0, api.ErrSeries},
	} {
		made := func() *session.Session { return up(t, begin(1000, 20, maxWord, 1), begin(7, 3, 11, 1)) }
		call := func(s *session.Session) api.Errno { return s.Flow(flow(c.heard, c.inWin, 7, 11)) }
		if c.e != api.OK {
			wantRefused(t, told(c), made, c.e, call)
			continue
		}
		s := made()
		want := s.State()
		wantErrno(t, told(c), call(s), api.OK)
		want.RemoteIn = c.want
		wantStands(t, told(c), s, want)
	}
}

// P13.6: NextIn goes on to the peer's NextOut, never back.
func TestFlowOfWhatThePeerSent(t *testing.T) {
	for _, c := range [][3]int{
		{7, 7, 7}, {7, 8, 8}, {7, 6, 7}, {7, 0, 7}, {7, 1000, 1000}, {7, maxWord, 7}, {0, maxWord, 0}, {0, 0, 0}, {maxWord, 0, 0}, {maxWord, 5, 5}, {maxWord, maxWord - 1, maxWord}, {maxWord - 3, 2, 2},
		{7, 7 + mostRoom, 7 + mostRoom}, {7, 8 + mostRoom, 7}, {7, 9 + mostRoom, 7}, {0, mostRoom, mostRoom}, {0, mostRoom + 1, 0}, {mostRoom + 1, 0, mostRoom + 1}, {mostRoom + 2, 0, 0}, {mostRoom, 0, mostRoom},
	} {
		for _, p := range []api.Perform{flow(9, 5, c[1], 33), full(flow(9, 5, c[1], 33)), turned(flow(9, 5, c[1], 33), func(p *api.Perform) { p.HandleMax = -1 })} {
			s := sentSome(t, 5, 4, c[0])
			want := s.State()
			wantErrno(t, "Flow", s.Flow(p), api.OK)
			want.NextIn, want.RemoteIn, want.RemoteOut = c[2], 5, 33
			wantStands(t, told(c), s, want)
		}
	}
}

// P13.6: the peer's OutWin is its own, of any size; InWin is not changed by a Flow.
func TestFlowOfWindows(t *testing.T) {
	for _, outWin := range words {
		for _, inWin := range words {
			s := up(t, begin(5, 20, 10, 1), begin(7, 3, 11, 1))
			want := s.State()
			wantErrno(t, "Flow", s.Flow(flow(5, inWin, 7, outWin)), api.OK)
			want.RemoteIn, want.RemoteOut = min(inWin, mostRoom), outWin
			wantStands(t, "Flow", s, want)
		}
	}
}

// P13.7: Fields says how the session stands, behind each call; whoever changes what it answered changes nothing.
func TestFields(t *testing.T) {
	s := started(t, begin(5, 2, 10, 1))
	wantFields(t, s, api.Perform{Kind: 19, NextIn: -1, InWin: 2, NextOut: 5, OutWin: 10, Handle: -1, Count: -1, Credit: -1, Available: -1})
	s.Peer(begin(0, 3, 11, 1))
	wantFields(t, s, api.Perform{Kind: 19, NextIn: 0, InWin: 2, NextOut: 5, OutWin: 10, Handle: -1, Count: -1, Credit: -1, Available: -1})
	s.Got()
	s.Sent()
	s.Sent()
	wantFields(t, s, api.Perform{Kind: 19, NextIn: 1, InWin: 1, NextOut: 7, OutWin: 10, Handle: -1, Count: -1, Credit: -1, Available: -1})
	s.Widen(50)
	s.Flow(flow(7, 60, 1, 70))
	wantFields(t, s, api.Perform{Kind: 19, NextIn: 1, InWin: 50, NextOut: 7, OutWin: 10, Handle: -1, Count: -1, Credit: -1, Available: -1})
	s.Flow(flow(7, 60, 40, 70))
	wantFields(t, s, api.Perform{Kind: 19, NextIn: 40, InWin: 50, NextOut: 7, OutWin: 10, Handle: -1, Count: -1, Credit: -1, Available: -1})
}

func wantFields(t *testing.T, s *session.Session, want api.Perform) {
	t.Helper()
	for range 2 {
		p := s.Fields()
		if told(p) != told(want) {
			t.Fatalf("Fields(): %s, want %s", told(p), told(want))
		}
		p.NextIn, p.InWin, p.NextOut, p.OutWin = 91, 92, 93, 94
	}
}
