package stream_test

import (
	"iter"
	"testing"

	"longshore/api"
	"longshore/stream"
)

// P6.4: a range tells the items in their order, each as soon as it is whole.
func TestAll(t *testing.T) {
	s := stream.New(512)
	ends := []int{8, 18, 26, 36}
	n := 0
	for i := range s.All(hexed("H F 00 00 00 08 02 00 00 00 F 00 00")) {
		wantState(t, s, api.StreamState{Taken: ends[n], At: ends[n]})
		if i.Kind != api.ItemFrame && n > 0 {
			t.Errorf("item %d: %s", n, told(i))
		}
		n++
	}
	if n != len(ends) {
		t.Errorf("%d items", n)
	}
	wantState(t, s, api.StreamState{Taken: 38, Held: 2, At: 36})
}

// P6.4: it is the range that takes the bytes, not All.
func TestAllAloneTakesNothing(t *testing.T) {
	s := stream.New(512)
	all := s.All(hexed("H F"))
	wantState(t, s, api.StreamState{Header: true})
	wantTake(t, s, hexed("G"), proto(3), 8)
	for i := range all {
		t.Errorf("told: %s", told(i))
	}
	wantState(t, s, api.StreamState{Taken: 12, At: 8, Err: api.ErrOrder})
}

// P6.4: of no bytes there are no items.
func TestAllOfNothing(t *testing.T) {
	for _, b := range [][]byte{nil, {}} {
		s := behind(512, hexed("H 00 00"))
		all := s.All(b)
		if all == nil {
			t.Fatal("All of nothing is nil")
		}
		for range 2 {
			for i := range all {
				t.Errorf("told: %s", told(i))
			}
		}
		wantState(t, s, api.StreamState{Taken: 10, Held: 2, At: 8})
	}
}

// P6.4: the chunk's bytes are those that it had at the call, in each range.
func TestAllOfAChunkThatIsChanged(t *testing.T) {
	s := behind(512, mainHeader)
	b := hexed("F F")
	all := s.All(b)
	clear(b)
	n := 0
	for i := range all {
		wantItems(t, []api.Item{i}, example)
		copy(b, "changed within the range")
		n++
	}
	for i := range all {
		wantItems(t, []api.Item{i}, example)
		n++
	}
	if n != 4 {
		t.Errorf("%d items", n)
	}
	wantState(t, s, api.StreamState{Taken: 48, At: 48})
}

// P6.4: whoever leaves the range leaves the bytes behind the item that was told last.
func TestARangeThatIsLeft(t *testing.T) {
	b := hexed("H F F F 00")
	for items := 1; items <= 4; items++ {
		s := stream.New(512)
		n := 0
		for range s.All(b) {
			n++
			if n == items {
				break
			}
		}
		taken := 8 + 10*(items-1)
		wantState(t, s, api.StreamState{Taken: taken, At: taken})
		wantItems(t, feed(s, b[taken:]), []api.Item{example, example, example}[items-1:]...)
		wantState(t, s, api.StreamState{Taken: 39, Held: 1, At: 38})
	}
}

// P6.4: each further range takes the chunk's bytes from the first on.
func TestARangeAgain(t *testing.T) {
	s := behind(512, mainHeader)
	all := s.All(hexed("F F F"))
	told := 0
	for leave := range 4 {
		n := 0
		for i := range all {
			wantItems(t, []api.Item{i}, example)
			n++
			told++
			if n == leave {
				break
			}
		}
		wantState(t, s, api.StreamState{Taken: 8 + 10*told, At: 8 + 10*told})
	}
	if told != 3+1+2+3 {
		t.Errorf("%d items", told)
	}
}

// P6.4: a range goes on with an item that earlier bytes began, and its bytes go on in the next one.
func TestRangesThatShareAnItem(t *testing.T) {
	s := behind(512, hexed("H 00 00 00 0A 02"))
	all := s.All(hexed("00 00 05 41 42 00 00 00 0A 02"))
	for range 3 {
		n := 0
		for i := range all {
			wantItems(t, []api.Item{i}, example)
			n++
		}
		if n != 1 {
			t.Errorf("%d items", n)
		}
	}
	wantState(t, s, api.StreamState{Taken: 43, Held: 5, At: 38})
}

// P6.4: what the body calls comes ahead of the bytes behind the item: a header that is asked for.
func TestExpectWithinARange(t *testing.T) {
	s := stream.New(512)
	var l []api.Item
	for i := range s.All(hexed("H F G 00 00 00 08 02 01 00 00 H F H")) {
		l = append(l, i)
		if len(l) == 2 || len(l) == 4 {
			wantErr(t, "Expect()", s.Expect(), api.OK)
			wantErr(t, "Expect() again", s.Expect(), api.ErrState)
		}
	}
	wantItems(t, l, proto(0), example, proto(3), api.Item{Kind: api.ItemFrame, Frame: api.Frame{Type: api.FrameGuard}}, proto(0), example)
	wantState(t, s, api.StreamState{Taken: 56, At: 52, Err: api.ErrOrder})
	s = stream.New(512)
	for i := range s.All(hexed("H F")) {
		if i.Kind == api.ItemProto {
			wantErr(t, "Expect()", s.Expect(), api.OK)
		}
	}
	wantState(t, s, api.StreamState{Taken: 9, At: 8, Header: true, Err: api.ErrProto})
}

// P6.4: and a limit.
func TestMostWithinARange(t *testing.T) {
	great, item := sealed(api.Frame{Channel: 1, Body: filled(1000, 1)})
	s := stream.New(512)
	var l []api.Item
	for i := range s.All(joined(mainHeader, exampleData, great, great)) {
		l = append(l, i)
		switch len(l) {
		case 2:
			wantErr(t, "Most(1008)", s.Most(1008), api.OK)
		case 3:
			wantErr(t, "Most(1007)", s.Most(1007), api.OK)
		}
	}
	wantItems(t, l, proto(0), example, item)
	wantState(t, s, api.StreamState{Taken: 8 + 10 + 1008 + 4, At: 8 + 10 + 1008, Err: api.ErrSize})
}

// P6.4: bytes that the body gives by Take come ahead of those that are left of the chunk.
func TestTakeWithinARange(t *testing.T) {
	s := stream.New(512)
	var l []api.Item
	for i := range s.All(hexed("H F 00 05 41 42")) {
		l = append(l, i)
		switch len(l) {
		case 1:
			wantTake(t, s, hexed("00 00 00 08 02 00 00 07"), api.Item{Kind: api.ItemFrame, Frame: api.Frame{Channel: 7}}, 8)
		case 2:
			wantTake(t, s, hexed("00 00 00 0A 02 00"), api.Item{}, 6)
		}
	}
	wantItems(t, l, proto(0), example, example)
	wantState(t, s, api.StreamState{Taken: 36, At: 36})
}

// P6.4: a stream that is closed within the body ends the range.
func TestARangeEndsWithTheStream(t *testing.T) {
	s := stream.New(512)
	n := 0
	for range s.All(hexed("H F F F")) {
		n++
		if n == 2 {
			wantTake(t, s, hexed("00 00 00 07"), api.Item{}, 4)
		}
	}
	if n != 2 {
		t.Errorf("%d items", n)
	}
	wantState(t, s, api.StreamState{Taken: 22, At: 18, Err: api.ErrSize})
}

// P6.4 and DOC.md's R7: a range within a range takes the chunk's bytes from the first on, and the outer one goes on behind its item.
func TestARangeWithinItself(t *testing.T) {
	s := behind(512, mainHeader)
	all := s.All(hexed("F 00 00 00 08 02 00 00 07"))
	seven := api.Item{Kind: api.ItemFrame, Frame: api.Frame{Channel: 7}}
	var l []api.Item
	for i := range all {
		l = append(l, i)
		if len(l) != 1 {
			continue
		}
		for inner := range all {
			l = append(l, inner)
		}
	}
	wantItems(t, l, example, example, seven, seven)
	wantState(t, s, api.StreamState{Taken: 8 + 18 + 18, At: 8 + 18 + 18})
}

// P6.4: ranges of two calls, one within the other.
func TestRangesOfTwoCalls(t *testing.T) {
	s := stream.New(512)
	outer, inner := s.All(hexed("H F")), s.All(hexed("F F 00 00 00"))
	var l []api.Item
	for i := range outer {
		l = append(l, i)
		for i := range inner {
			l = append(l, i)
			break
		}
	}
	wantItems(t, l, proto(0), example, example, example)
	wantState(t, s, api.StreamState{Taken: 38, At: 38})
}

// P6.4: a body that panics leaves the stream behind the item that it was told.
func TestABodyThatPanics(t *testing.T) {
	s := stream.New(512)
	func() {
		defer func() { recover() }()
		for i := range s.All(hexed("H F F")) {
			if i.Kind == api.ItemFrame {
				panic("enough")
			}
		}
	}()
	wantState(t, s, api.StreamState{Taken: 18, At: 18})
	wantItems(t, feed(s, exampleData), example)
}

// P6.4: a range that is pulled takes the bytes as they are asked for.
func TestARangeThatIsPulled(t *testing.T) {
	s := stream.New(512)
	next, stop := iter.Pull(s.All(hexed("H F F")))
	wantState(t, s, api.StreamState{Header: true})
	for _, want := range []api.Item{proto(0), example} {
		i, ok := next()
		if !ok || !same(i, want) {
			t.Errorf("pulled: %s, %v", told(i), ok)
		}
	}
	wantState(t, s, api.StreamState{Taken: 18, At: 18})
	stop()
	wantState(t, s, api.StreamState{Taken: 18, At: 18})
	if i, ok := next(); ok {
		t.Errorf("pulled behind the end: %s", told(i))
	}
}

// P6.4: what an iterator tells of a closed stream.
func TestRangesOfClosedStreams(t *testing.T) {
	for _, s := range closedStreams() {
		want := s.State()
		for _, b := range []string{"", "00", "H F", "F", "G"} {
			for i := range s.All(hexed(b)) {
				t.Errorf("told: %s", told(i))
			}
		}
		wantState(t, s, want)
	}
}
