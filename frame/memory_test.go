package frame_test

import (
	"bytes"
	"math/rand"
	"testing"

	"longshore/api"
	"longshore/frame"
)

// roomy is b with room to spare, in which a mark stands.
func roomy(b []byte) []byte {
	return append(bytes.Clone(b), "spare room"...)[:len(b)]
}

// whole is b with the room behind it.
func whole(b []byte) []byte { return b[:cap(b)] }

// scribble overwrites b and the room behind it.
func scribble(b []byte) {
	for i := range whole(b) {
		whole(b)[i] ^= 0xff
	}
}

// samples are frames with and without each of their parts.
func samples() []api.Frame {
	r := rand.New(rand.NewSource(57))
	l := []api.Frame{{}, {Type: api.FrameGuard}, {Channel: 5, Body: []byte("AB")}, {Ext: filled(4, 1)}, {Ext: filled(1012, 1)}, {Ext: filled(8, 1), Body: filled(8, 100)}}
	for range 200 {
		l = append(l, mayBe(r, 400))
	}
	return append(l, greatest()[2])
}

// DOC.md's R2: a frame that is handed in stays, with its spare room, also one that is refused.
func TestFramesStay(t *testing.T) {
	for _, f := range append(samples(), api.Frame{Type: 2, Ext: filled(3, 1), Body: filled(3, 9)}, api.Frame{Ext: filled(3, 1), Body: filled(3, 9)}) {
		f.Ext, f.Body = roomy(f.Ext), roomy(f.Body)
		ext, body := bytes.Clone(whole(f.Ext)), bytes.Clone(whole(f.Body))
		frame.Seal(f)
		if !bytes.Equal(whole(f.Ext), ext) || !bytes.Equal(whole(f.Body), body) {
			t.Fatalf("a frame that was handed in became %s", told(f))
		}
	}
}

// DOC.md's R2: bytes that are handed in stay, with their spare room.
func TestBytesStay(t *testing.T) {
	r := rand.New(rand.NewSource(58))
	for range 3000 {
		b, at, most := anything(r)
		b = roomy(b)
		before := bytes.Clone(whole(b))
		frame.Open(b, at, most)
		frame.ReadHeader(b, at)
		if !bytes.Equal(whole(b), before) {
			t.Fatalf("bytes that were handed in were %s, are %s", brief(before), brief(whole(b)))
		}
	}
	b := roomy(append(bytes.Clone(mainHeader), guardHeader...))
	before := bytes.Clone(whole(b))
	for at := range len(b) + 2 {
		frame.ReadHeader(b, at)
	}
	if !bytes.Equal(whole(b), before) {
		t.Fatalf("bytes that were handed in became % x", whole(b))
	}
}

// DOC.md's R2: what Seal answers is new memory, its spare room too.
func TestSealedBytesAreNew(t *testing.T) {
	for _, f := range samples() {
		f.Ext, f.Body = roomy(f.Ext), roomy(f.Body)
		ext, body := bytes.Clone(whole(f.Ext)), bytes.Clone(whole(f.Body))
		want := sealed(f)
		one, _ := frame.Seal(f)
		other, _ := frame.Seal(f)
		scribble(one)
		if !bytes.Equal(whole(f.Ext), ext) || !bytes.Equal(whole(f.Body), body) {
			t.Fatalf("%s changed with what Seal answered", told(f))
		}
		if !bytes.Equal(other, want) {
			t.Fatalf("Seal(%s): an answer changed with another one", told(f))
		}
		scribble(f.Ext)
		scribble(f.Body)
		if !bytes.Equal(other, want) {
			t.Fatalf("Seal: an answer changed with the frame")
		}
	}
}

// DOC.md's R2: what Open answers shares nothing with the bytes, with another answer, nor one part with the other, also by the room behind it.
func TestOpenedFramesAreNew(t *testing.T) {
	for _, f := range samples() {
		b := roomy(append(sealed(f), "more"...))
		before := bytes.Clone(whole(b))
		one, _, _ := frame.Open(b, 0, api.MaxFrame)
		other, _, _ := frame.Open(b, 0, api.MaxFrame)
		scribble(one.Ext)
		if !bytes.Equal(one.Body, f.Body) {
			t.Fatalf("%s: its Body changed with its Ext", told(f))
		}
		scribble(one.Body)
		if !bytes.Equal(whole(b), before) {
			t.Fatalf("%s: the bytes changed with the frame that was read from them", told(f))
		}
		if !same(other, f) {
			t.Fatalf("%s: an answer changed with another one", told(f))
		}
		scribble(other.Body)
		if !bytes.Equal(other.Ext, f.Ext) {
			t.Fatalf("%s: its Ext changed with its Body", told(f))
		}
		third, _, _ := frame.Open(b, 0, api.MaxFrame)
		scribble(b)
		if !same(third, f) {
			t.Fatalf("%s changed with the bytes that it was read from", told(f))
		}
	}
}

// DOC.md's R2: what Header answers is new memory.
func TestHeadersAreNew(t *testing.T) {
	one, _ := frame.Header(api.ProtoMain)
	other, _ := frame.Header(api.ProtoMain)
	guard, _ := frame.Header(api.ProtoGuard)
	scribble(one)
	if !bytes.Equal(other, mainHeader) || !bytes.Equal(guard, guardHeader) {
		t.Error("a header changed with another one")
	}
	wantHeader(t, api.ProtoMain, mainHeader, api.OK)
	wantReadHeader(t, mainHeader, 0, api.ProtoMain, 8, api.OK)
}

// DOC.md's R6: what came before a call, and what has become of its arguments, doesn't matter.
func TestNothingIsKept(t *testing.T) {
	f := api.Frame{Channel: 5, Body: []byte("AB")}
	for range 3 {
		wantOpen(t, first, 0, 512, f, 10, api.OK)
		wantOpenError(t, hexed("00 00 00 0A 02 02"), 0, 512, api.ErrType)
		wantSeal(t, f, first, api.OK)
		wantSealError(t, api.Frame{Type: 2}, api.ErrType)
		wantReadHeader(t, guardHeader, 0, api.ProtoGuard, 8, api.OK)
		wantReadHeader(t, hexed("4C 54"), 0, 0, 0, api.ErrProto)
		wantHeader(t, 1, nil, api.ErrProto)
		b := bytes.Clone(first)
		frame.Open(b, 0, 512)
		clear(b)
		wantOpenError(t, b, 0, 512, api.ErrSize)
	}
}
