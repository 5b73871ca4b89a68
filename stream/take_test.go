package stream_test

import (
	"testing"

	"longshore/api"
	"longshore/stream"
)

// P6.3: Take stops behind the item that is whole first, and leaves what stands behind it.
func TestTakeStopsBehindAnItem(t *testing.T) {
	b := hexed("H F F G F")
	s := stream.New(512)
	wantTake(t, s, b, proto(0), 8)
	wantState(t, s, api.StreamState{Taken: 8, At: 8})
	wantTake(t, s, b[8:], example, 10)
	wantState(t, s, api.StreamState{Taken: 18, At: 18})
	wantTake(t, s, b[18:], example, 10)
	wantErr(t, "Expect()", s.Expect(), api.OK)
	wantState(t, s, api.StreamState{Taken: 28, At: 28, Header: true})
	wantTake(t, s, b[28:], proto(3), 8)
	wantTake(t, s, b[36:], api.Item{}, 10)
	wantState(t, s, api.StreamState{Taken: 42, At: 36, Err: api.ErrOrder})
}

// P6.3: how many bytes were taken is counted in the chunk, wherever the item began.
func TestTakeCountsInTheChunk(t *testing.T) {
	b := hexed("H F F")
	for cut := range 8 {
		s := stream.New(512)
		wantTake(t, s, b[:cut], api.Item{}, cut)
		wantTake(t, s, b[cut:], proto(0), 8-cut)
		wantTake(t, s, b[8:8+cut], api.Item{}, cut)
		wantTake(t, s, b[8+cut:], example, 10-cut)
		wantState(t, s, api.StreamState{Taken: 18, At: 18})
	}
}

// P6.3: where no item is whole, all bytes of the chunk are taken; the empty chunk changes nothing.
func TestTakeOfABeginning(t *testing.T) {
	b := hexed("H F")
	for n := range 10 {
		s := behind(512, mainHeader)
		wantTake(t, s, b[8:8+n], api.Item{}, n)
		want := api.StreamState{Taken: 8 + n, Held: n, At: 8}
		wantState(t, s, want)
		for _, none := range [][]byte{nil, {}, b[3:3]} {
			wantTake(t, s, none, api.Item{}, 0)
			wantState(t, s, want)
		}
		wantTake(t, s, b[8+n:], example, 10-n)
	}
	s := stream.New(512)
	wantTake(t, s, nil, api.Item{}, 0)
	wantState(t, s, api.StreamState{Header: true})
}

// P6.3: what stands behind a fault is passed over; it is in the answer, and not among the bytes that were taken.
func TestTakePassesOverWhatIsBehindAFault(t *testing.T) {
	for _, c := range []struct {
		b     string
		state api.StreamState
	}{
		{"00", api.StreamState{Taken: 1, Header: true, Err: api.ErrProto}},
		{"4C 53 48 52 01", api.StreamState{Taken: 5, Header: true, Err: api.ErrProto}},
		{"4C 53 48 52 00 01 00 01", api.StreamState{Taken: 8, Header: true, Err: api.ErrProto}},
	} {
		for _, more := range []string{"", "00", "H", "H F", "G F F H"} {
			b := joined(hexed(c.b), hexed(more))
			s := stream.New(512)
			wantTake(t, s, b, api.Item{}, len(b))
			wantState(t, s, c.state)
		}
	}
	for _, more := range []string{"", "00", "H", "F", "F F H F"} {
		s := behind(512, hexed("H F"))
		b := joined(hexed("00 00 00 07"), hexed(more))
		wantTake(t, s, b, api.Item{}, len(b))
		wantState(t, s, api.StreamState{Taken: 22, At: 18, Err: api.ErrSize})
	}
}

// P6.3: a fault behind an item is known by the Take that takes its bytes, not by the one that told the item.
func TestFaultsBehindAnItem(t *testing.T) {
	b := hexed("H 00 00 00 07 H")
	s := stream.New(512)
	wantTake(t, s, b, proto(0), 8)
	wantState(t, s, api.StreamState{Taken: 8, At: 8})
	wantTake(t, s, b[8:], api.Item{}, len(b)-8)
	wantState(t, s, api.StreamState{Taken: 12, At: 8, Err: api.ErrSize})
}

// P6.3: an item has what its kind has, and zero values beside it.
func TestItems(t *testing.T) {
	s := stream.New(512)
	f := headed(17, 4, 1, 9, 9)
	l := feed(s, joined(guardHeader, f))
	wantItems(t, l, proto(3), api.Item{Kind: api.ItemFrame, Frame: api.Frame{Type: api.FrameGuard, Ext: f[8:16], Body: f[16:]}})
	s.Expect()
	l = feed(s, hexed("H F 00 00 00 08 02 00 FF FF"))
	wantItems(t, l, proto(0), example, api.Item{Kind: api.ItemFrame, Frame: api.Frame{Channel: 65535}})
}

// P6.3: bytes in the spare room behind a chunk's end are not among its bytes.
func TestTakeStopsAtTheEnd(t *testing.T) {
	b := hexed("H F F")
	for n := range 8 {
		s := stream.New(512)
		wantTake(t, s, b[:n], api.Item{}, n)
		wantState(t, s, api.StreamState{Taken: n, Held: n, Header: true})
	}
	s := stream.New(512)
	wantItems(t, collect(s, b[:17]), proto(0))
	wantState(t, s, api.StreamState{Taken: 17, Held: 9, At: 8})
}
