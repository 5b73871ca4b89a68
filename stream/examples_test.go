package stream_test

import (
	"testing"

	"longshore/api"
	"longshore/stream"
)

// The chapter's section 'Examples', row by row: the first table.
func TestExamplesOfOneStream(t *testing.T) {
	if stream.New(511) != nil {
		t.Error("New(511) is a stream")
	}
	s := stream.New(512)
	wantState(t, s, api.StreamState{Taken: 0, Held: 0, Header: true, At: 0})
	wantErr(t, "Expect()", s.Expect(), api.ErrState)
	wantTake(t, s, hexed("4C 53"), api.Item{}, 2)
	wantState(t, s, api.StreamState{Taken: 2, Held: 2, Header: true, At: 0})
	wantTake(t, s, hexed("48 52 00 01 00 00 00 00 00 0A"), proto(0), 6)
	wantState(t, s, api.StreamState{Taken: 8, Held: 0, At: 8})
	wantTake(t, s, hexed("00 00 00 0A 02"), api.Item{}, 5)
	wantErr(t, "Expect()", s.Expect(), api.ErrState)
	wantTake(t, s, hexed("00 00 05 41 42 F 00 00"), example, 5)
	wantErr(t, "Expect()", s.Expect(), api.OK)
	wantErr(t, "Expect() again", s.Expect(), api.ErrState)
	wantTake(t, s, hexed("4C 53 48 52 03 01 00 00"), proto(3), 8)
	wantTake(t, s, hexed("00 00 00 08 02 01 00 07"), api.Item{Kind: api.ItemFrame, Frame: api.Frame{Type: api.FrameGuard}}, 8)
	wantTake(t, s, hexed("F"), api.Item{}, 10)
	closed := api.StreamState{Taken: 40, Held: 0, At: 34, Err: api.ErrOrder}
	wantState(t, s, closed)
	for _, b := range []string{"", "00", "H", "G F", "F F F"} {
		wantTake(t, s, hexed(b), api.Item{}, len(hexed(b)))
	}
	wantErr(t, "Expect()", s.Expect(), api.ErrState)
	wantErr(t, "Most(600)", s.Most(600), api.ErrState)
	wantErr(t, "Most(1)", s.Most(1), api.ErrArg)
	wantState(t, s, closed)
}

// The second table, but for its last row.
func TestExamplesOfOneChunk(t *testing.T) {
	for _, c := range []struct {
		b     string
		items []api.Item
		state api.StreamState
	}{
		{"F", nil, api.StreamState{Err: api.ErrProto, Taken: 1, At: 0, Header: true}},
		{"H H", []api.Item{proto(0)}, api.StreamState{Err: api.ErrOrder, Taken: 12, At: 8}},
		{"H 00 00 02 01", []api.Item{proto(0)}, api.StreamState{Err: api.ErrSize, Taken: 12, At: 8}},
		{"H 00 00 02 00", []api.Item{proto(0)}, api.StreamState{Taken: 12, At: 8, Held: 4}},
		{"H 00 00 00 0C 04", []api.Item{proto(0)}, api.StreamState{Err: api.ErrOffset, Taken: 13, At: 8}},
		{"H 00 00 00 0C 02 02", []api.Item{proto(0)}, api.StreamState{Err: api.ErrType, Taken: 14, At: 8}},
	} {
		s := stream.New(512)
		wantItems(t, feed(s, hexed(c.b)), c.items...)
		wantState(t, s, c.state)
		s = stream.New(512)
		wantItems(t, collect(s, hexed(c.b)), c.items...)
		wantState(t, s, c.state)
	}
}

// The last row of the second table.
func TestExampleOfARange(t *testing.T) {
	s := stream.New(512)
	all := s.All(hexed("H F F"))
	for i := range all {
		wantItems(t, []api.Item{i}, proto(0))
		break
	}
	wantState(t, s, api.StreamState{Taken: 8, At: 8})
	for i := range all {
		t.Errorf("a second range tells %s", told(i))
	}
	wantState(t, s, api.StreamState{Taken: 12, At: 8, Err: api.ErrOrder})
}

func TestNumbers(t *testing.T) {
	for _, c := range []struct {
		name      string
		got, want int
	}{
		{"MinFrame", api.MinFrame, 512}, {"MaxFrame", api.MaxFrame, 1048576},
		{"ItemNone", api.ItemNone, 0}, {"ItemProto", api.ItemProto, 1}, {"ItemFrame", api.ItemFrame, 2},
		{"ErrArg", int(api.ErrArg), 1}, {"ErrState", int(api.ErrState), 4}, {"ErrProto", int(api.ErrProto), 50}, {"ErrSize", int(api.ErrSize), 51},
		{"ErrOffset", int(api.ErrOffset), 52}, {"ErrType", int(api.ErrType), 53}, {"ErrOrder", int(api.ErrOrder), 60},
	} {
		if c.got != c.want {
			t.Errorf("%s: %d, want %d", c.name, c.got, c.want)
		}
	}
}
