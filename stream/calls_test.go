package stream_test

import (
	"testing"

	"longshore/api"
	"longshore/stream"
)

// P6.5: between items a header can be asked for, once, and then a header must come, and behind it a frame again.
func TestExpect(t *testing.T) {
	for _, taken := range []string{"H", "G", "H F", "H F F", "G 00 00 00 08 02 01 00 00"} {
		s := behind(512, hexed(taken))
		n := len(hexed(taken))
		wantState(t, s, api.StreamState{Taken: n, At: n})
		wantErr(t, "Expect()", s.Expect(), api.OK)
		wantState(t, s, api.StreamState{Taken: n, At: n, Header: true})
		wantErr(t, "Expect() again", s.Expect(), api.ErrState)
		wantState(t, s, api.StreamState{Taken: n, At: n, Header: true})
		wantItems(t, feed(s, hexed("H F")), proto(0), example)
		wantErr(t, "Expect() later", s.Expect(), api.OK)
	}
}

// P6.5: at the beginning, and in the midst of an item, nothing is asked for, and all goes on as if it had not been tried.
func TestExpectOutOfTurn(t *testing.T) {
	b := hexed("H F F")
	for n := range len(b) {
		s := behind(512, b[:n])
		want := s.State()
		between := n == 8 || n == 18
		if between {
			continue
		}
		wantErr(t, "Expect()", s.Expect(), api.ErrState)
		wantState(t, s, want)
		items, state := byModel(512, b)
		got := feed(s, b[n:])
		wantItems(t, got, items[len(items)-len(got):]...)
		wantState(t, s, state)
	}
}

// P6.5: in the midst of a header that Expect has asked for, too.
func TestExpectWithinALaterHeader(t *testing.T) {
	for n := range 8 {
		s := behind(512, hexed("H F"))
		s.Expect()
		feed(s, guardHeader[:n])
		want := api.StreamState{Taken: 18 + n, Held: n, At: 18, Header: true}
		wantState(t, s, want)
		wantErr(t, "Expect()", s.Expect(), api.ErrState)
		wantState(t, s, want)
		wantTake(t, s, guardHeader[n:], proto(3), 8-n)
	}
}

// P6.6: limits at their ends, and those beyond, of a stream at each place; one that is refused changes nothing.
func TestMost(t *testing.T) {
	b := hexed("H F F")
	for n := range len(b) + 1 {
		s := behind(600, b[:n])
		want := s.State()
		for _, most := range append([]int{511, api.MaxFrame + 1}, extremes...) {
			wantErr(t, "Most beyond its ends", s.Most(most), api.ErrArg)
			wantState(t, s, want)
		}
		feed(s, b[n:])
		wantHeld(t, s, headed(600, 2, 0, 5, 592)[:599])
		s = behind(600, b)
		feed(s, headed(601, 2, 0, 5, 0)[:4])
		wantState(t, s, api.StreamState{Taken: 32, At: 28, Err: api.ErrSize})
	}
	for _, most := range []int{512, 513, 1000, api.MaxFrame - 1, api.MaxFrame} {
		s := behind(600, b)
		wantErr(t, "Most", s.Most(most), api.OK)
		wantState(t, s, api.StreamState{Taken: 28, At: 28})
		f, i := sealed(api.Frame{Body: filled(most-8, 1)})
		wantTake(t, s, f, i, most)
		wantTake(t, s, headed(uint32(most+1), 2, 0, 5, 0), api.Item{}, 8)
		wantState(t, s, api.StreamState{Taken: 28 + most + 4, At: 28 + most, Err: api.ErrSize})
	}
}

// P6.6: the limit may be said where a header must come, and is the same behind it.
func TestMostAheadOfAHeader(t *testing.T) {
	for n := range 8 {
		s := behind(512, mainHeader[:n])
		wantErr(t, "Most(700)", s.Most(700), api.OK)
		wantErr(t, "Most(600)", s.Most(600), api.OK)
		wantTake(t, s, mainHeader[n:], proto(0), 8-n)
		f, i := sealed(api.Frame{Body: filled(592, 1)})
		wantTake(t, s, f, i, 600)
		s.Expect()
		feed(s, guardHeader)
		wantTake(t, s, headed(601, 2, 1, 0, 0), api.Item{}, 8)
		wantErr(t, "State().Err", s.State().Err, api.ErrSize)
	}
}

// closedStreams are streams that were closed by each of the faults.
func closedStreams() []*stream.Stream {
	var l []*stream.Stream
	for _, b := range []string{"F", "4C 53 48 52 00 01 00 01", "H H", "H 00 00 02 01", "H 00 00 00 07", "H F 00 00 00 0C 04", "H F 00 00 00 08 01", "H 00 00 00 0C 02 02", "G F"} {
		l = append(l, behind(512, hexed(b)))
	}
	return l
}

// P6.5, P6.6 and P6.10: of a closed stream nothing more comes, and nothing changes, whatever is called.
func TestClosedStreams(t *testing.T) {
	for _, s := range closedStreams() {
		want := s.State()
		if want.Err == api.OK || want.Held != 0 {
			t.Errorf("closed: %+v", want)
		}
		for range 2 {
			for _, b := range []string{"", "00", "H", "G", "H F", "F F", "00 01 00 00 H"} {
				wantTake(t, s, hexed(b), api.Item{}, len(hexed(b)))
				wantItems(t, collect(s, hexed(b)))
			}
			wantErr(t, "Expect()", s.Expect(), api.ErrState)
			for _, most := range []int{512, 513, api.MaxFrame} {
				wantErr(t, "Most", s.Most(most), api.ErrState)
			}
			for _, most := range append([]int{511, api.MaxFrame + 1}, extremes...) {
				wantErr(t, "Most beyond its ends", s.Most(most), api.ErrArg)
			}
			wantState(t, s, want)
		}
	}
}

// P6.7: the state at each byte of some items.
func TestState(t *testing.T) {
	b := hexed("H F 00 00 00 08 02 00 00 00 F")
	s := stream.New(512)
	begins := []int{0, 8, 18, 26, 36}
	for n := range b {
		at := 0
		for _, p := range begins {
			if p <= n {
				at = p
			}
		}
		wantState(t, s, api.StreamState{Taken: n, Held: n - at, Header: n < 8, At: at})
		s.Take(b[n : n+1])
	}
	wantState(t, s, api.StreamState{Taken: 36, At: 36})
}

// P6.7: of a closed stream At is the place of the item at fault, and Header is as it was.
func TestStateOfAClosedStream(t *testing.T) {
	s := behind(512, hexed("H F"))
	s.Expect()
	feed(s, hexed("4C 53 48 00"))
	wantState(t, s, api.StreamState{Taken: 22, At: 18, Header: true, Err: api.ErrProto})
	s = behind(512, hexed("H F 00 00 00 0A 02 01 00 00"))
	wantState(t, s, api.StreamState{Taken: 24, At: 18, Err: api.ErrOrder})
}

// P6.7: to ask how a stream stands doesn't change it.
func TestStateChangesNothing(t *testing.T) {
	b := hexed("H F F")
	s := stream.New(512)
	var l []api.Item
	for n := range b {
		one := s.State()
		wantState(t, s, one)
		l = append(l, feed(s, b[n:n+1])...)
	}
	wantItems(t, l, proto(0), example, example)
}
