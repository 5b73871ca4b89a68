package carve_test

import (
	"math"
	"math/rand"
	"strconv"
	"testing"

	"longshore/api"
	"longshore/carve"
	"longshore/frame"
	"longshore/perform"
	"longshore/sample"
)

// wantSplit wants the frames that the model makes; it answers how many bytes each of them has.
func wantSplit(t *testing.T, p api.Perform, channel int, payload string, most int) []int {
	t.Helper()
	want, wantE := modelSplit(p, channel, payload, most)
	got, e := carve.Split(p, channel, []byte(payload), most)
	if e != wantE || len(got) != len(want) {
		t.Fatalf("Split(%s, %d, %d bytes, %d): %d frames, %d, want %d, %d", told(p), channel, len(payload), most, len(got), e, len(want), wantE)
	}
	var sizes []int
	for i, b := range got {
		if string(b) != want[i] {
			t.Fatalf("Split(%s, %d, %d bytes, %d): frame %d is %s, want %s", told(p), channel, len(payload), most, i, brief(strconv.Quote(string(b))), brief(strconv.Quote(want[i])))
		}
		sizes = append(sizes, len(b))
	}
	return sizes
}

func wantRefused(t *testing.T, p api.Perform, channel int, payload []byte, most int, want api.Errno) {
	t.Helper()
	if l, e := carve.Split(p, channel, payload, most); e != want || len(l) != 0 {
		t.Errorf("Split(%s, %d, %d bytes, %d): %d frames, %d, want none, %d", told(p), channel, len(payload), most, len(l), e, want)
	}
}

var (
	goodChannels = []int{0, 1, 255, 256, 65534, 65535}
	badChannels  = []int{-1, 65536, math.MinInt, math.MaxInt, 1 << 32, -65536}
	goodMosts    = []int{512, 513, 1024, 65536, 1<<20 - 1, 1 << 20}
	badMosts     = []int{511, 0, -1, -512, 1<<20 + 1, math.MinInt, math.MaxInt, 1<<32 + 512}
)

// refused is a transfer that perform.Write refuses, and its error.
type refused struct {
	p api.Perform
	e api.Errno
}

func refusedTransfers() map[string]refused {
	return map[string]refused{
		"a tag without HasTag":        {transfer(0, noTag, withTag("t")), api.ErrPerform},
		"settled without HasSettled":  {transfer(0, "t", settledUnsaid), api.ErrPerform},
		"a name":                      {transfer(0, "t", withName("link")), api.ErrPerform},
		"a last number":               {transfer(0, "t", lastOf(-1)), api.ErrPerform},
		"a handle below 0":            {transfer(0, "t", handle(-1)), api.ErrRange},
		"a handle above all":          {transfer(0, "t", handle(api.MaxWord+1)), api.ErrRange},
		"a number below -1":           {transfer(-2, "t"), api.ErrRange},
		"a number above all":          {transfer(api.MaxWord+1, "t"), api.ErrRange},
		"a format below -1":           {transfer(0, "t", format(-2)), api.ErrRange},
		"a format above all":          {transfer(0, "t", format(api.MaxWord+1)), api.ErrRange},
		"a handle ahead of a tag":     {transfer(0, long(33), handle(-1)), api.ErrRange},
		"a tag of 33 bytes":           {transfer(0, long(33)), api.ErrLong},
		"a tag ahead of a state":      {transfer(0, long(33), state(api.State{Kind: 1})), api.ErrLong},
		"a state that is none":        {transfer(0, "t", state(api.State{Kind: 1})), api.ErrTerm},
		"a state without a kind":      {transfer(0, "t", state(api.State{Failed: true})), api.ErrTerm},
		"a state in a state":          {transfer(0, "t", state(api.State{Kind: api.KTransactional, Txn: "t", Inner: []api.State{{}}})), api.ErrNested},
		"a map of an odd count":       {transfer(0, "t", state(api.State{Kind: api.KModified, Ann: sample.Pairs(api.Value{})})), api.ErrMap},
		"a map that nests too deep":   {transfer(0, "t", state(api.State{Kind: api.KModified, Ann: nested(33)})), api.ErrDeep},
		"a map too deep in its place": {transfer(0, "t", state(api.State{Kind: api.KModified, Ann: nested(29)})), api.ErrDeep},
		"too many bytes":              {transfer(0, "t", state(annotated(1<<20))), api.ErrLong},
	}
}

// P12.1: ErrArg of channels and greatest sizes, ahead of whatever else is wrong.
func TestChannelsAndSizes(t *testing.T) {
	good, odd, bad := transfer(0, "t"), perform.Blank(api.KFlow), transfer(-2, "t")
	great := make([]byte, api.MaxMessage+1)
	for _, p := range []api.Perform{good, odd, bad, {}, sized(t, 600)} {
		for _, payload := range [][]byte{nil, great[:1], great[:600], great} {
			for _, channel := range badChannels {
				wantRefused(t, p, channel, payload, 512, api.ErrArg)
				wantRefused(t, p, channel, payload, 1<<20, api.ErrArg)
				wantRefused(t, p, channel, payload, 511, api.ErrArg)
			}
			for _, most := range badMosts {
				wantRefused(t, p, 0, payload, most, api.ErrArg)
				wantRefused(t, p, 65535, payload, most, api.ErrArg)
			}
		}
	}
	for _, channel := range goodChannels {
		for _, most := range goodMosts {
			for _, n := range []int{0, 1, 1000} {
				wantSplit(t, good, channel, text(n), most)
			}
		}
	}
}

// P12.1: ErrPerform of what is no transfer, ahead of perform.Write's errors and of a payload that is too long.
func TestKindsThatAreNoTransfer(t *testing.T) {
	great := make([]byte, api.MaxMessage+1)
	for _, k := range kinds {
		for _, p := range []api.Perform{perform.Blank(k), {Kind: k}, transfer(0, "t", kind(k)), transfer(-2, long(33), kind(k)), turned(fullTransfer(states[6]), kind(k)), sized(t, 600)} {
			p.Kind = k
			for _, payload := range [][]byte{nil, great[:10], great} {
				wantRefused(t, p, 0, payload, 512, api.ErrPerform)
			}
		}
	}
}

// P12.1: perform.Write's errors, ahead of a payload that is too long.
func TestTransfersThatAreRefused(t *testing.T) {
	great := make([]byte, api.MaxMessage+1)
	for name, c := range refusedTransfers() {
		if _, e := perform.Write(c.p); e != c.e {
			t.Errorf("%s: Write says %d, not %d", name, e, c.e)
		}
		for _, p := range []api.Perform{c.p, turned(c.p, more), turned(c.p, aborted)} {
			for _, payload := range [][]byte{nil, great[:1], great[:600], great} {
				wantRefused(t, p, 3, payload, 512, c.e)
				wantRefused(t, p, 3, payload, 1<<20, c.e)
			}
		}
	}
}

// P12.1: ErrLong of a payload above MaxMessage, ahead of ErrRoom.
func TestLongPayloads(t *testing.T) {
	great := make([]byte, 2*api.MaxMessage)
	for _, most := range []int{512, 5000, 1 << 20} {
		for _, p := range []api.Perform{transfer(0, "t"), transfer(0, "t", more), sized(t, 504), sized(t, 600), sized(t, 1<<20)} {
			for _, n := range []int{api.MaxMessage + 1, api.MaxMessage + 2, 2 * api.MaxMessage} {
				wantRefused(t, p, 0, great[:n], most, api.ErrLong)
			}
		}
	}
	for _, most := range []int{512, 4096, 1<<20 - 1, 1 << 20} {
		for _, n := range []int{api.MaxMessage - 1, api.MaxMessage} {
			for _, p := range []api.Perform{transfer(0, "t"), transfer(0, "t", more)} {
				wantSplit(t, p, 7, text(n), most)
			}
		}
	}
	// The greatest payload does not fit into the greatest frame: two of them are needed.
	if sizes := wantSplit(t, transfer(0, "t"), 7, text(1<<20), 1<<20); len(sizes) != 2 || sizes[0] != 1<<20 || sizes[1] != 8+8+23 {
		t.Errorf("the greatest payload in the greatest frames: %v", sizes)
	}
	wantRefused(t, sized(t, 600), 0, great[:api.MaxMessage], 512, api.ErrRoom)
}

// P12.1: ErrRoom, by how many bytes of payload have room beside the transfer in the first frame.
func TestRoomOfTheFirstFrame(t *testing.T) {
	for _, most := range []int{512, 513, 600, 4096} {
		for room := -3; room <= 5; room++ {
			for _, turns := range [][]turn{nil, {more}, {settled}, {aborted, more}} {
				p := sized(t, most-8-room, turns...)
				for n := range 10 {
					wantRoom(t, p, room, n, most)
				}
				wantRoom(t, p, room, 1200, most)
			}
		}
	}
	for room := -1; room <= 2; room++ {
		p := sized(t, 1<<20-8-room)
		for n := range 4 {
			wantRoom(t, p, room, n, 1<<20)
		}
		wantRoom(t, turned(p, more), room, 2, 1<<20)
	}
	for _, over := range []int{1, 100, 1 << 19} {
		for _, n := range []int{0, 1, 600} {
			wantRefused(t, sized(t, 504+over), 0, make([]byte, n), 512, api.ErrRoom)
		}
	}
}

// wantRoom splits a transfer beside which so many bytes have room.
func wantRoom(t *testing.T, p api.Perform, room, n, most int) {
	t.Helper()
	if room < 0 || room == 0 && n > 0 {
		wantRefused(t, p, 0, make([]byte, n), most, api.ErrRoom)
		return
	}
	sizes := wantSplit(t, p, 0, text(n), most)
	if n <= room && (len(sizes) != 1 || sizes[0] != most-room+n) || n > room && (len(sizes) < 2 || sizes[0] != most) {
		t.Errorf("room for %d bytes, %d there: %v", room, n, sizes)
	}
}

// P12.1: ErrRoom comes of no transfer without a state: the longest one leaves room enough in the least frame.
func TestTransfersWithoutAState(t *testing.T) {
	p := transfer(api.MaxWord, long(32), handle(api.MaxWord), format(api.MaxWord), settled, resumed, batched, aborted)
	for n := range 1100 {
		wantSplit(t, p, 65535, text(n), 512)
		wantSplit(t, turned(p, more), 65535, text(n), 512)
	}
}

// shapes are transfers of many lengths.
func shapes() []api.Perform {
	var l []api.Perform
	for _, h := range []int{0, 1, 255, 256, api.MaxWord} {
		l = append(l, further(handle(h)), transfer(0, "", handle(h)), transfer(255, "t", handle(h)), transfer(api.MaxWord, long(32), handle(h), format(0), unsettled), transfer(1, noTag, handle(h), batched))
	}
	for _, s := range states {
		l = append(l, fullTransfer(s), transfer(3, "t", state(s)))
	}
	return l
}

// P12.1: the longest payload of so many frames fills the last one; one byte more makes a further frame.
func TestLastFrames(t *testing.T) {
	for _, p := range shapes() {
		for _, p := range []api.Perform{p, turned(p, more)} {
			next := modelFurther(p)
			head := func(p api.Perform) int { return 8 + len(modelWrite(p)) }
			for _, most := range []int{512, 513, 767, 768, 2000} {
				fits := most - head(p)
				ahead := most - head(turned(p, more))
				for frames := 1; frames <= 5; frames++ {
					if sizes := wantSplit(t, p, 3, text(fits), most); len(sizes) != frames || sizes[frames-1] != most {
						t.Fatalf("%s with %d bytes: %v, want %d full frames of %d", told(p), fits, sizes, frames, most)
					}
					if sizes := wantSplit(t, p, 3, text(fits+1), most); len(sizes) != frames+1 || sizes[frames-1] != most || sizes[frames] != head(next)+fits+1-ahead {
						t.Fatalf("%s with %d bytes: %v, want %d full frames of %d, and one more", told(p), fits+1, sizes, frames, most)
					}
					fits = ahead + most - head(next)
					ahead += most - head(turned(next, more))
				}
			}
		}
	}
}

// P12.1: each length of the payload, over some frames of the least size.
func TestEachLength(t *testing.T) {
	for _, p := range []api.Perform{transfer(0, "t"), transfer(0, "t", more), fullTransfer(states[6])} {
		for n := range 2100 {
			wantSplit(t, p, 258, text(n), 512)
		}
	}
}

// P12.1: the first transfer is p, the further ones have its handle alone, all but the last one have More.
func TestTransfersOfTheFrames(t *testing.T) {
	for _, p := range append(shapes(), transfer(4, "t", aborted), fullTransfer(states[2])) {
		for _, p := range []api.Perform{p, turned(p, more)} {
			for _, n := range []int{0, 1, 600, 1400, 5000} {
				frames, e := carve.Split(p, 515, []byte(text(n)), 512)
				if e != api.OK || n > 512 && len(frames) < 2 {
					t.Fatalf("%s with %d bytes: %d frames, %d", told(p), n, len(frames), e)
				}
				for i, b := range frames {
					want := p
					if i > 0 {
						want = perform.Blank(api.KTransfer)
						want.Handle = p.Handle
					}
					want.More = p.More || i < len(frames)-1
					if got, _ := opened(t, b, 515, 512); !alike(got, want) {
						t.Fatalf("frame %d of %d: %s, want %s", i, len(frames), told(got), told(want))
					}
				}
			}
		}
	}
}

// opened are the transfer and the piece of a frame, which is a main one of this channel without Ext.
func opened(t *testing.T, b []byte, channel, most int) (api.Perform, []byte) {
	t.Helper()
	f, behind, e := frame.Open(b, 0, most)
	if e != api.OK || behind != len(b) || f.Type != api.FrameMain || f.Channel != channel || len(f.Ext) != 0 {
		t.Fatalf("a frame of %d bytes: %s, %d, %d", len(b), told(f), behind, e)
	}
	p, at, e := perform.Read(f.Body)
	if e != api.OK {
		t.Fatalf("the body of %s: %d", told(f), e)
	}
	return p, f.Body[at:]
}

// P12.6: all frames but the last one are full, none is above most, and the pieces are the payload.
func TestFullFrames(t *testing.T) {
	r := rand.New(rand.NewSource(126))
	for range 1500 {
		p := anyTransfer(r)
		most := 512 + r.Intn(1500)
		payload := text(r.Intn(6000))
		frames, e := carve.Split(p, 9, []byte(payload), most)
		if e != api.OK {
			t.Fatalf("Split(%s): %d", told(p), e)
		}
		pieces := ""
		for i, b := range frames {
			_, piece := opened(t, b, 9, most)
			pieces += string(piece)
			if len(b) > most || i < len(frames)-1 && len(b) != most || i > 0 && len(piece) == 0 {
				t.Fatalf("Split(%s) of %d bytes: frame %d of %d has %d bytes, most is %d", told(p), len(payload), i, len(frames), len(b), most)
			}
		}
		if pieces != payload {
			t.Fatalf("Split(%s): the pieces are another payload", told(p))
		}
	}
}

// anyTransfer is one that may be, and that leaves room in the least frame.
func anyTransfer(r *rand.Rand) api.Perform {
	numbers := []int{0, 1, 255, 256, api.MaxWord}
	p := transfer(numbers[r.Intn(5)], text(r.Intn(33)), handle(numbers[r.Intn(5)]))
	for _, turn := range []turn{withoutTag, number(-1), format(numbers[r.Intn(5)]), settled, unsettled, more, resumed, batched, state(states[r.Intn(len(states))])} {
		if r.Intn(3) == 0 {
			turn(&p)
		}
	}
	return p
}

// P12.1: transfers, payloads and sizes by chance, as the model.
func TestSplitByChance(t *testing.T) {
	r := rand.New(rand.NewSource(121))
	for range 3000 {
		p := anyTransfer(r)
		if r.Intn(4) == 0 {
			p.State = annotated(r.Intn(700))
		}
		most := 512 + r.Intn(40)
		if r.Intn(4) == 0 {
			most = 512 + r.Intn(3000)
		}
		wantSplit(t, p, r.Intn(api.MaxChannel+1), text(r.Intn(5000)), most)
	}
}
