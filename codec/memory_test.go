package codec_test

import (
	"bytes"
	"math/rand"
	"testing"

	"longshore/api"
	"longshore/codec"
	"longshore/sample"
)

// DOC.md's R2: values that are handed in stay, with the spare room of their lists.
func TestValuesStay(t *testing.T) {
	r, simple := rand.New(rand.NewSource(38)), edges()
	for range 500 {
		v := roomy(mayBe(r.Intn, simple, r.Intn(5)))
		before := sample.WithRoom(v)
		codec.Encode(v)
		codec.Length(v)
		if after := sample.WithRoom(v); after != before {
			t.Fatalf("a value that was handed in was %s, is %s", before, after)
		}
	}
}

// DOC.md's R2: bytes that are handed in stay, with their spare room.
func TestBytesStay(t *testing.T) {
	r, simple := rand.New(rand.NewSource(39)), edges()
	for range 2000 {
		b := spoil(r, anyForm(r, mayBe(r.Intn, simple, r.Intn(4))))
		room := append(bytes.Clone(b), "spare room"...)
		before := bytes.Clone(room)
		codec.Decode(room[:len(b)], 0)
		codec.Whole(room[:len(b)])
		codec.Shortest(room[:len(b)])
		if !bytes.Equal(room, before) {
			t.Fatalf("bytes that were handed in were %s, are %s", brief(before), brief(room))
		}
	}
}

// DOC.md's R2: what Encode answers is new memory.
func TestBytesAreNew(t *testing.T) {
	for _, v := range append(edges(), list(), list(api.Value{}), described(list(), pairs())) {
		first, _ := codec.Encode(v)
		second, _ := codec.Encode(v)
		before := bytes.Clone(second)
		for i := range first[:cap(first)] {
			first[:cap(first)][i] = 0xee
		}
		third, _ := codec.Encode(v)
		if !bytes.Equal(second, before) || !bytes.Equal(third, before) {
			t.Errorf("Encode(%s): an answer changed with another one", written(v))
		}
	}
}

// DOC.md's R2: what Decode answers shares nothing with the bytes, with another answer, nor one of its lists with another one.
func TestValuesAreNew(t *testing.T) {
	r, simple := rand.New(rand.NewSource(40)), edges()
	for range 1000 {
		b := anyForm(r, mayBe(r.Intn, simple, 1+r.Intn(4)))
		first, _, _ := codec.Decode(b, 0)
		second, _, _ := codec.Whole(b)
		before := written(second)
		kept := bytes.Clone(b)
		clear(b)
		if written(first) != before || written(second) != before {
			t.Fatalf("a value that was read from %s changed with the bytes", brief(kept))
		}
		scribble(first)
		if written(second) != before {
			t.Fatalf("a value that was read from %s changed with another one", brief(kept))
		}
		if !sample.Apart(func() api.Value { v, _, _ := codec.Whole(kept); return v }) {
			t.Fatalf("a list in what was read from %s changed with another one", brief(kept))
		}
	}
}

// DOC.md's R6: what came before a call doesn't matter.
func TestNothingIsKept(t *testing.T) {
	for range 3 {
		wantFault(t, hex("c0 03 01 a1 05"), 1, api.ErrSpan)
		wantDecode(t, hex("c0 02 01 40"), 0, list(api.Value{}), 4, api.OK)
		wantFault(t, hex("70 00"), 2, api.ErrShort)
		wantEncode(t, list(api.Value{}), hex("c0 02 01 40"), api.OK)
		wantEncode(t, num(api.Bool, 2), nil, api.ErrNum)
	}
}
