package carve_test

import (
	"slices"
	"testing"

	"longshore/api"
	"longshore/carve"
)

// The chapter's section 'Examples', row by row.

func TestExamplesOfSplit(t *testing.T) {
	p := transfer(0, "t")
	if a, b := len(written(t, p)), len(written(t, turned(p, more))); a != 12 || b != 15 {
		t.Errorf("the transfer has %d bytes, %d with More", a, b)
	}
	if a, b := len(written(t, further())), len(written(t, further(more))); a != 8 || b != 13 {
		t.Errorf("a further one has %d bytes, %d with More", a, b)
	}
	for _, c := range []struct {
		n              int
		frames, pieces []int
	}{
		{0, []int{20}, []int{0}},
		{492, []int{512}, []int{492}},
		{493, []int{512, 20}, []int{489, 4}},
		{985, []int{512, 512}, []int{489, 496}},
		{986, []int{512, 512, 22}, []int{489, 491, 6}},
	} {
		frames, e := carve.Split(p, 0, []byte(text(c.n)), 512)
		var sizes, pieces []int
		for i, b := range frames {
			q, piece := opened(t, b, 0, 512)
			sizes, pieces = append(sizes, len(b)), append(pieces, len(piece))
			if q.More != (i < len(frames)-1) {
				t.Errorf("%d bytes: More of frame %d is %v", c.n, i, q.More)
			}
		}
		if e != api.OK || !slices.Equal(sizes, c.frames) || !slices.Equal(pieces, c.pieces) {
			t.Errorf("%d bytes: frames of %v with %v, %d, want %v with %v", c.n, sizes, pieces, e, c.frames, c.pieces)
		}
	}
}

// The bytes of the frames of 493 bytes, as chapters 5 and 9 write them.
func TestBytesOfAnExample(t *testing.T) {
	payload := text(493)
	frames, e := carve.Split(transfer(0, "t"), 258, []byte(payload), 512)
	if e != api.OK || len(frames) != 2 {
		t.Fatalf("%d frames, %d", len(frames), e)
	}
	first := "\x00\x00\x02\x00\x02\x00\x01\x02" + "\x00\x53\x14\xc0\x0a\x06\x52\x01\x43\xa0\x01\x74\x40\x40\x41" + payload[:489]
	second := "\x00\x00\x00\x14\x02\x00\x01\x02" + "\x00\x53\x14\xc0\x03\x01\x52\x01" + payload[489:]
	if string(frames[0]) != first || string(frames[1]) != second {
		t.Errorf("%x, %x", frames[0], frames[1])
	}
}

func TestExamplesOfAJoiner(t *testing.T) {
	j := joiner(t, 10)
	wantOn(t, j, transfer(7, noTag), "ab", api.ErrTag, false, 0)
	wantOn(t, j, transfer(7, "t", more), "abc", api.OK, true, 3)
	wantOn(t, j, transfer(8, noTag), "d", api.ErrMixed, true, 3)
	wantOn(t, j, transfer(-1, "u"), "d", api.ErrMixed, true, 3)
	wantOn(t, j, further(settled, more), "de", api.OK, true, 5)
	wantWhole(t, j, transfer(-1, "t"), "f", api.Delivery{Id: 7, Tag: "t", Format: -1, Settled: true, Data: []byte("abcdef")})
	wantOn(t, j, transfer(8, "u", more), "elevenbytes", api.ErrTooMuch, true, 0)
	wantOn(t, j, further(more), "x", api.OK, true, 0)
	wantOn(t, j, further(), "y", api.OK, false, 0)
	wantOn(t, j, transfer(9, "v", more), "a", api.OK, true, 1)
	wantOn(t, j, further(aborted), "", api.OK, false, 0)
	wantOn(t, j, transfer(9, "v"), "elevenbytes", api.ErrTooMuch, false, 0)
}

func TestNumbers(t *testing.T) {
	for _, c := range []struct {
		name      string
		got, want int
	}{
		{"MinFrame", api.MinFrame, 512}, {"MaxFrame", api.MaxFrame, 1048576}, {"MaxMessage", api.MaxMessage, 1048576}, {"MaxChannel", api.MaxChannel, 65535}, {"MaxTag", api.MaxTag, 32}, {"KTransfer", api.KTransfer, 20},
		{"ErrArg", int(api.ErrArg), 1}, {"ErrLong", int(api.ErrLong), 2}, {"ErrPerform", int(api.ErrPerform), 90}, {"ErrRoom", int(api.ErrRoom), 120}, {"ErrMixed", int(api.ErrMixed), 121}, {"ErrTag", int(api.ErrTag), 122}, {"ErrTooMuch", int(api.ErrTooMuch), 123},
	} {
		if c.got != c.want {
			t.Errorf("%s: %d, want %d", c.name, c.got, c.want)
		}
	}
}
