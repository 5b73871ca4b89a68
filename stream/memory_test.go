package stream_test

import (
	"bytes"
	"math/rand"
	"testing"

	"longshore/api"
	"longshore/stream"
)

// roomy is b with room to spare, in which a mark stands.
func roomy(b []byte) []byte {
	return append(bytes.Clone(b), "spare room"...)[:len(b)]
}

// whole is b with the room behind it.
func whole(b []byte) []byte { return b[:cap(b)] }

// scribble overwrites b and the room behind it.
func scribble(b []byte) {
	for i := range whole(b) {
		whole(b)[i] ^= 0xff
	}
}

func scribbleItem(i api.Item) {
	scribble(i.Frame.Ext)
	scribble(i.Frame.Body)
}

// DOC.md's R2: a chunk that is handed in stays, with its spare room.
func TestChunksStay(t *testing.T) {
	r := rand.New(rand.NewSource(66))
	for range 500 {
		b := roomy(broken(r))
		before := bytes.Clone(whole(b))
		feed(stream.New(512), b)
		s := stream.New(512)
		all := s.All(b)
		for i := range all {
			scribbleItem(i)
		}
		for range all {
		}
		if !bytes.Equal(whole(b), before) {
			t.Fatalf("a chunk was %s, is %s", brief(before), brief(whole(b)))
		}
	}
}

// DOC.md's R2: a chunk isn't kept: what becomes of it behind the call isn't seen in the items that its bytes began.
func TestChunksAreNotKept(t *testing.T) {
	r := rand.New(rand.NewSource(67))
	for range 300 {
		b, items := row(r, 4, 300)
		s := stream.New(512)
		var l []api.Item
		for rest := b; len(rest) > 0; {
			chunk := roomy(rest[:1+r.Intn(len(rest))])
			i, n := s.Take(chunk)
			scribble(chunk)
			if i.Kind != api.ItemNone {
				l = append(l, i)
			}
			rest = rest[n:]
		}
		wantItems(t, l, items...)
		wantState(t, s, api.StreamState{Taken: len(b), At: len(b)})
		if t.Failed() {
			return
		}
	}
}

// DOC.md's R2: the frames that come out share nothing with a chunk, with one another, with the stream, nor one part with the other, also by their room.
func TestFramesAreNew(t *testing.T) {
	r := rand.New(rand.NewSource(68))
	for range 300 {
		b, items := row(r, 5, 300)
		for _, collected := range []func(*stream.Stream, []byte) []api.Item{feed, collect} {
			chunk := roomy(b)
			before := bytes.Clone(whole(chunk))
			l := collected(stream.New(512), chunk)
			for n := range l {
				scribble(l[n].Frame.Ext)
				if !bytes.Equal(l[n].Frame.Body, items[n].Frame.Body) {
					t.Fatalf("%s: its Body changed with its Ext", told(items[n]))
				}
				scribble(l[n].Frame.Body)
				wantItems(t, l[n+1:], items[n+1:]...)
			}
			if !bytes.Equal(whole(chunk), before) {
				t.Fatalf("%s: a chunk changed with the frames", brief(before))
			}
			l = collected(stream.New(512), chunk)
			scribble(chunk)
			wantItems(t, l, items...)
			for n := range l {
				scribble(l[n].Frame.Body)
				if !bytes.Equal(l[n].Frame.Ext, items[n].Frame.Ext) {
					t.Fatalf("%s: its Ext changed with its Body", told(items[n]))
				}
			}
		}
		if t.Failed() {
			return
		}
	}
}

// DOC.md's R2: frames that are scribbled over as they come, chunk by chunk, change nothing of what comes behind.
func TestFramesAreNotTheStreams(t *testing.T) {
	r := rand.New(rand.NewSource(69))
	for range 300 {
		b, items := row(r, 5, 200)
		s := stream.New(512)
		var l []api.Item
		for rest := b; len(rest) > 0; {
			i, n := s.Take(rest[:1+r.Intn(min(40, len(rest)))])
			if i.Kind != api.ItemNone {
				l = append(l, copied(i))
				scribbleItem(i)
			}
			rest = rest[n:]
		}
		wantItems(t, l, items...)
		if t.Failed() {
			return
		}
	}
}

// DOC.md's R2: two ranges over the same bytes tell frames that share nothing.
func TestRangesTellNewFrames(t *testing.T) {
	f, want := sealed(api.Frame{Channel: 9, Ext: filled(8, 1), Body: filled(20, 50)})
	s := behind(512, mainHeader)
	all := s.All(joined(f, f))
	var l []api.Item
	for range 3 {
		for i := range all {
			l = append(l, i)
		}
	}
	for n := range l {
		scribbleItem(l[n])
		for _, other := range l[n+1:] {
			wantItems(t, []api.Item{other}, want)
		}
	}
	for i := range all {
		wantItems(t, []api.Item{i}, want)
	}
}

// DOC.md's R6: streams don't know of each other.
func TestStreamsAreApart(t *testing.T) {
	one, two := stream.New(512), stream.New(600)
	b, c := hexed("H F F"), joined(guardHeader, headed(600, 2, 1, 0, 592))
	var l, k []api.Item
	for n := range c {
		if n < len(b) {
			l = append(l, feed(one, b[n:n+1])...)
		}
		k = append(k, feed(two, c[n:n+1])...)
	}
	wantItems(t, l, proto(0), example, example)
	wantItems(t, k, proto(3), api.Item{Kind: api.ItemFrame, Frame: api.Frame{Type: api.FrameGuard, Body: c[16:]}})
	feed(two, hexed("H"))
	wantErr(t, "the error of one", two.State().Err, api.ErrOrder)
	wantState(t, one, api.StreamState{Taken: 28, At: 28})
	wantErr(t, "Most(700)", one.Most(700), api.OK)
	wantState(t, stream.New(512), api.StreamState{Header: true})
	wantFault(t, ahead(512, mainHeader), headed(513, 2, 0, 0, 0), 4, api.ErrSize)
}
