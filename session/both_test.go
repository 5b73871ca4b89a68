package session_test

import (
	"math/rand"
	"testing"

	"longshore/api"
	"longshore/session"
)

// parcel is what goes from one side to the other one: a Begin, a Flow, or (of the Kind 0) a transfer.
type parcel = api.Perform

// side is one of two sessions, with what is under way to the other one.
type side struct {
	*session.Session
	way       []parcel
	sent, got int // transfers in all
	toldWin   int // its InWin, as it last told it
	toldGot   int // how many transfers it had got then
}

func newSide(t *testing.T, own api.Perform) *side {
	t.Helper()
	return &side{Session: started(t, own), way: []parcel{own}, toldWin: own.InWin}
}

func (a *side) send(t *testing.T) {
	t.Helper()
	wantErrno(t, "Sent", a.Sent(), api.OK)
	a.sent++
	a.way = append(a.way, parcel{})
}

func (a *side) tell() {
	p := a.Fields()
	a.way = append(a.way, p)
	a.toldWin, a.toldGot = p.InWin, a.got
}

// take is what comes over first from the other side; no answer may be an error.
func (a *side) take(t *testing.T, b *side) {
	t.Helper()
	p := b.way[0]
	b.way = b.way[1:]
	switch p.Kind {
	case api.KBegin:
		wantErrno(t, "Peer", a.Peer(p), api.OK)
	case api.KFlow:
		wantErrno(t, "Flow", a.Flow(p), api.OK)
	default:
		wantErrno(t, "Got", a.Got(), api.OK)
		a.got++
	}
}

// wantAgreed is what holds of a side's Room whenever nothing is under way.
func wantAgreed(t *testing.T, a, b *side) {
	t.Helper()
	st, left := a.State(), b.toldWin-(a.sent-b.toldGot)
	if b.toldWin <= mostRoom && a.Room() != min(left, st.OutWin) || a.Room() > min(left, st.OutWin) {
		t.Fatalf("Room %d, where the other one told %d at %d, and %d were sent; %+v", a.Room(), b.toldWin, b.toldGot, a.sent, st)
	}
	if other := b.State(); other.NextIn != st.NextOut || other.InWin < st.RemoteIn || a.sent != b.got {
		t.Fatalf("%+v, and at the other one %+v", st, other)
	}
}

// act does something by chance at one side.
func act(t *testing.T, r *rand.Rand, a, b *side, widest int) {
	t.Helper()
	switch n := r.Intn(12); {
	case n < 4 && a.Room() > 0:
		a.send(t)
	case n < 5:
		a.tell()
	case n < 6:
		wantErrno(t, "Widen", a.Widen(r.Intn(widest+1)), api.OK)
	case n == 6 && r.Intn(20) == 0:
		wantErrno(t, "Widen", a.Widen([]int{mostRoom - 1, mostRoom, mostRoom + 1, maxWord}[r.Intn(4)]), api.OK)
	case len(b.way) > 0:
		a.take(t, b)
	}
}

// P13.13: transfers and Fields under way in any mixture, numbers near where they go round, windows that are widened in the midst.
func TestBothAgree(t *testing.T) {
	r := rand.New(rand.NewSource(1313))
	windows := []int{0, 1, 2, 3, 10, mostRoom - 1, mostRoom, mostRoom + 1, maxWord}
	starts := []int{0, 1, 5, mostRoom - 3, mostRoom, mostRoom + 1, maxWord - 20, maxWord - 1, maxWord}
	total, quiet, refused := 0, 0, 0
	for range 1500 {
		window := func() int { return windows[r.Intn(5+r.Intn(len(windows)-4))] }
		one := newSide(t, begin(starts[r.Intn(len(starts))], window(), window(), 1))
		other := newSide(t, begin(starts[r.Intn(len(starts))], window(), window(), 1))
		for range 300 {
			a, b := one, other
			if r.Intn(2) == 0 {
				a, b = other, one
			}
			act(t, r, a, b, r.Intn(8))
			if a.Room() == 0 {
				refused++
				wantErrno(t, "Sent without Room", a.Sent(), api.ErrWindow)
			}
			if len(a.way) == 0 && len(b.way) == 0 {
				quiet++
				wantAgreed(t, a, b)
				wantAgreed(t, b, a)
			}
		}
		settleDown(t, one, other)
		total += one.sent + other.sent
	}
	if total < 20000 || quiet < 5000 || refused < 5000 {
		t.Errorf("little was shown: %d transfers, %d times nothing was under way, %d times there was no Room", total, quiet, refused)
	}
}

// settleDown takes all that is under way, then lets each side say its Fields once more, one by one.
func settleDown(t *testing.T, one, other *side) {
	t.Helper()
	for range 2 {
		for len(one.way) > 0 {
			other.take(t, one)
		}
		for len(other.way) > 0 {
			one.take(t, other)
		}
		wantAgreed(t, one, other)
		wantAgreed(t, other, one)
		one.tell()
		other.tell()
	}
}

// P13.13: a window is used to its last transfer, told anew, and used again, many times round the numbers' end.
func TestWindowsUsedUp(t *testing.T) {
	for _, window := range []int{1, 2, 7} {
		a, b := newSide(t, begin(maxWord-5, 0, maxWord, 1)), newSide(t, begin(0, window, 0, 1))
		a.take(t, b)
		b.take(t, a)
		for range 10 {
			for range window {
				a.send(t)
			}
			wantErrno(t, "Sent", a.Sent(), api.ErrWindow)
			for range window {
				b.take(t, a)
			}
			wantErrno(t, "Got", b.Got(), api.ErrWindow)
			wantErrno(t, "Widen", b.Widen(window), api.OK)
			wantErrno(t, "Sent, ahead of the Fields", a.Sent(), api.ErrWindow)
			b.tell()
			a.take(t, b)
			wantAgreed(t, a, b)
		}
		if n := a.State().NextOut; n != serial(maxWord-5+10*window) || b.State().NextIn != n {
			t.Errorf("NextOut %d", n)
		}
	}
}

// P13.13: Fields that were told ahead of the other one's Begin, come when transfers are under way.
func TestFieldsAheadOfTheBegin(t *testing.T) {
	a, b := newSide(t, begin(maxWord-1, 5, 10, 1)), newSide(t, begin(9, 3, 10, 1))
	b.tell() // NextIn -1
	wantErrno(t, "Widen", b.Widen(6), api.OK)
	b.tell() // NextIn -1, InWin 6
	a.take(t, b)
	for range 3 {
		a.send(t)
	}
	wantErrno(t, "Sent", a.Sent(), api.ErrWindow)
	a.take(t, b)
	if a.Room() != 0 {
		t.Errorf("Room %d", a.Room())
	}
	a.take(t, b)
	if a.Room() != 3 {
		t.Errorf("Room %d", a.Room())
	}
	settleDown(t, a, b)
}
