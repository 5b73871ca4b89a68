package stream_test

import (
	"math/rand"
	"testing"

	"longshore/api"
	"longshore/stream"
)

// mayBe is a frame of a type, of up to so many bytes.
func mayBe(r *rand.Rand, kind, most int) api.Frame {
	f := api.Frame{Type: kind}
	if kind == api.FrameMain {
		f.Channel = r.Intn(api.MaxChannel + 1)
	}
	room := most - 8
	if r.Intn(3) == 0 {
		f.Ext = filled(4*r.Intn(min(room/4, 253)+1), r.Intn(256))
	}
	room -= len(f.Ext)
	f.Body = filled(r.Intn(room+1), r.Intn(256))
	switch r.Intn(6) {
	case 0:
		f.Body = filled(room, r.Intn(256))
	case 1, 2:
		f.Body = f.Body[:min(len(f.Body), r.Intn(9))]
	}
	return f
}

// row is a header, and frames of the type that goes with it, as bytes and as items.
func row(r *rand.Rand, frames, most int) ([]byte, []api.Item) {
	kind := r.Intn(2)
	b, items := mainHeader, []api.Item{proto(3 * kind)}
	if kind == api.FrameGuard {
		b = guardHeader
	}
	for range frames {
		f, i := sealed(mayBe(r, kind, most))
		b = joined(b, f)
		items = append(items, i)
	}
	return joined(b), items
}

// broken is bytes of which some are often amiss, or missing at the end, or too many.
func broken(r *rand.Rand) []byte {
	b, _ := row(r, r.Intn(5), 40+r.Intn(2)*r.Intn(500))
	switch r.Intn(4) {
	case 0:
		b[r.Intn(len(b))] = byte(r.Intn(256))
	case 1:
		b = b[:r.Intn(len(b)+1)]
	case 2:
		b = append(b, filled(r.Intn(20), r.Intn(256))...)
	case 3:
		more, _ := row(r, 1, 100)
		b = append(b, more...)
	}
	return b
}

// given gives a stream of New(512) bytes, cut by cut(n), which says how many of the n that are left come next; the pieces go to Take or to All as byAll says.
func given(b []byte, cut func(n int) int, byAll func() bool) ([]api.Item, api.StreamState) {
	s := stream.New(512)
	var l []api.Item
	for {
		n := cut(len(b))
		if byAll() {
			l = append(l, collect(s, b[:n])...)
		} else {
			l = append(l, feed(s, b[:n])...)
			s.Take(b[n:n])
		}
		b = b[n:]
		if len(b) == 0 {
			return l, s.State()
		}
	}
}

func always() bool { return true }
func never() bool  { return false }

// P6.8: cut at each place, byte by byte, at any places, with empty pieces; taken by Take, by All, by both.
func TestPieces(t *testing.T) {
	r := rand.New(rand.NewSource(61))
	seen := map[api.Errno]int{}
	for range 400 {
		b := broken(r)
		items, state := byModel(512, b)
		seen[state.Err]++
		same := func(what string, l []api.Item, s api.StreamState) {
			t.Helper()
			if !sameAll(l, items) || s != state {
				t.Fatalf("%s, %s: %s, %+v, want %s, %+v", what, brief(b), toldAll(l), s, toldAll(items), state)
			}
		}
		run := func(what string, cut func(n int) int) {
			t.Helper()
			for _, by := range []func() bool{always, never, func() bool { return r.Intn(2) == 0 }} {
				l, s := given(b, cut, by)
				same(what, l, s)
			}
		}
		run("at once", func(n int) int { return n })
		run("byte by byte", func(n int) int { return min(n, 1) })
		run("at any places", func(n int) int { return r.Intn(n + 1) })
		run("in small pieces", func(n int) int { return min(n, r.Intn(4)) })
		for at := range min(len(b), 120) {
			run("in two", func(n int) int {
				if n == len(b) && at > 0 {
					return at
				}
				return n
			})
		}
	}
	for _, e := range []api.Errno{api.OK, api.ErrProto, api.ErrSize, api.ErrOffset, api.ErrType, api.ErrOrder} {
		if seen[e] == 0 {
			t.Errorf("no bytes with the error %d were tried: %v", e, seen)
		}
	}
}

// P6.9: a header and frames of its type give just these items, with nothing held.
func TestRows(t *testing.T) {
	r := rand.New(rand.NewSource(62))
	for range 400 {
		most := 512 + r.Intn(2)*r.Intn(3000)
		b, items := row(r, r.Intn(12), most)
		want := api.StreamState{Taken: len(b), At: len(b)}
		s := stream.New(most)
		wantItems(t, feed(s, b), items...)
		wantState(t, s, want)
		s = stream.New(most)
		wantItems(t, collect(s, b), items...)
		wantState(t, s, want)
		if t.Failed() {
			return
		}
	}
}

// P6.9: frames that are as great as a frame may be.
func TestRowsOfTheGreatest(t *testing.T) {
	for kind, header := range [][]byte{mainHeader, guardHeader} {
		b := joined(header)
		items := []api.Item{proto(3 * kind)}
		for _, ext := range []int{0, 4, 1012} {
			f, i := sealed(api.Frame{Type: kind, Ext: filled(ext, 9), Body: filled(api.MaxFrame-8-ext, 3)})
			b = append(b, f...)
			items = append(items, i)
		}
		s := stream.New(api.MaxFrame)
		wantItems(t, feed(s, b), items...)
		wantState(t, s, api.StreamState{Taken: len(b), At: len(b)})
		wantFault(t, ahead(api.MaxFrame-1, header), b[8:20], 4, api.ErrSize)
	}
}

// P6.9: rows of either kind, one behind the other, with Expect between.
func TestRowsBehindRows(t *testing.T) {
	r := rand.New(rand.NewSource(63))
	s := stream.New(512)
	taken := 0
	for range 300 {
		b, items := row(r, r.Intn(4), 512)
		wantItems(t, feed(s, b), items...)
		taken += len(b)
		wantState(t, s, api.StreamState{Taken: taken, At: taken})
		wantErr(t, "Expect()", s.Expect(), api.OK)
		if t.Failed() {
			return
		}
	}
}

// P6.10: Held stays below what the item has, at each byte of anything.
func TestHeldStaysBelowTheItem(t *testing.T) {
	r := rand.New(rand.NewSource(64))
	for range 1500 {
		b := broken(r)
		s := stream.New(512)
		for n := range b {
			feed(s, b[n:n+1])
			got := s.State()
			most := 4
			switch {
			case got.Header:
				most = 8
			case got.Held >= 4:
				most = int(b[got.At])<<24 + int(b[got.At+1])<<16 + int(b[got.At+2])<<8 + int(b[got.At+3])
			}
			if got.Held >= most || got.Held < 0 || got.Err == api.OK && got.Held != got.Taken-got.At {
				t.Fatalf("%s at %d: %+v", brief(b), n, got)
			}
		}
	}
}

// P6.2 to P6.10: any calls, in any order, against the model; the bytes are mostly such as may come.
func TestAnyCalls(t *testing.T) {
	r := rand.New(rand.NewSource(65))
	for range 300 {
		most := 512 + r.Intn(3)
		s, m := stream.New(most), newModel(most)
		var left []byte
		for range 150 {
			if len(left) == 0 {
				left = fitting(r, m)
			}
			switch r.Intn(8) {
			case 0:
				wantErr(t, "Expect()", s.Expect(), m.expect())
				left = nil
			case 1:
				n := 510 + r.Intn(60)
				wantErr(t, "Most", s.Most(n), m.most(n))
			case 2:
				n := r.Intn(len(left) + 1)
				left = joined(left[ranged(t, r, s, m, left[:n]):])
			default:
				n := r.Intn(len(left) + 1)
				i, taken := m.until(left[:n])
				wantTake(t, s, left[:n], i, taken)
				left = left[taken:]
			}
			wantState(t, s, m.state)
			if t.Failed() {
				return
			}
		}
	}
}

// fitting is bytes that may come next, or nearly.
func fitting(r *rand.Rand, m *model) []byte {
	if m.state.Held > 0 {
		return filled(1+r.Intn(300), r.Intn(256))
	}
	b, _ := row(r, 0, 512)
	if !m.state.Header {
		b, _ = sealed(mayBe(r, m.kind, 500+r.Intn(60)*r.Intn(2)))
	}
	if r.Intn(100) == 0 {
		b[r.Intn(min(8, len(b)))] = byte(r.Intn(256))
	}
	return b
}

// ranged holds a range over a chunk against the model, leaves it now and then, calls on the stream from within, and tells how many bytes of the chunk were taken or passed over.
func ranged(t *testing.T, r *rand.Rand, s *stream.Stream, m *model, chunk []byte) int {
	n := 0
	for i := range s.All(chunk) {
		want, taken := m.until(chunk[n:])
		if !same(i, want) {
			t.Errorf("a range tells %s, want %s", told(i), told(want))
		}
		n += taken
		wantState(t, s, m.state)
		switch r.Intn(6) {
		case 0:
			return n
		case 1:
			wantErr(t, "Expect()", s.Expect(), m.expect())
		case 2:
			most := 510 + r.Intn(60)
			wantErr(t, "Most", s.Most(most), m.most(most))
		}
	}
	i, taken := m.until(chunk[n:])
	if i.Kind != api.ItemNone {
		t.Errorf("a range doesn't tell %s", told(i))
	}
	return n + taken
}
