package frame_test

import (
	"bytes"
	"math/rand"
	"testing"

	"longshore/api"
	"longshore/frame"
)

// mayBe is a frame that Seal takes, of up to so many bytes of a body.
func mayBe(r *rand.Rand, body int) api.Frame {
	f := api.Frame{Type: r.Intn(2), Body: filled(r.Intn(body+1), r.Intn(256))}
	if f.Type == api.FrameMain {
		f.Channel = r.Intn(api.MaxChannel + 1)
	}
	switch r.Intn(4) {
	case 0:
		f.Ext = filled(4*r.Intn(254), r.Intn(256))
	case 1:
		f.Ext = filled(4*r.Intn(4), r.Intn(256))
	}
	return f
}

// greatest are frames of just MaxFrame bytes.
func greatest() []api.Frame {
	var l []api.Frame
	for _, ext := range []int{0, 4, 1012} {
		body := filled(api.MaxFrame-8-ext, 3)
		l = append(l, api.Frame{Channel: 65535, Ext: filled(ext, 9), Body: body}, api.Frame{Type: api.FrameGuard, Ext: filled(ext, 9), Body: body})
	}
	return l
}

// P5.4: what Seal wrote is read, behind anything and ahead of anything; a greatest size that is just the frame's will do, and one below it not.
func TestSealAndOpen(t *testing.T) {
	r := rand.New(rand.NewSource(53))
	frames := greatest()
	for range 3000 {
		frames = append(frames, mayBe(r, 1200))
	}
	for _, f := range frames {
		b, e := frame.Seal(f)
		if e != api.OK {
			t.Fatalf("Seal(%s): %d", told(f), e)
		}
		ahead := filled(r.Intn(30), r.Intn(256))
		all := append(append(bytes.Clone(ahead), b...), filled(r.Intn(30), r.Intn(256))...)
		end := len(ahead) + len(b)
		for _, most := range []int{max(512, len(b)), api.MaxFrame} {
			wantOpen(t, all, len(ahead), most, f, end, api.OK)
			wantOpen(t, all[:end], len(ahead), most, f, end, api.OK)
		}
		if len(b) > 512 {
			wantOpenError(t, all, len(ahead), len(b)-1, api.ErrSize)
			wantOpenError(t, all, len(ahead), 512, api.ErrSize)
		}
		if t.Failed() {
			return
		}
	}
}

// P5.4: a beginning of a frame that is not the whole is ErrShort.
func TestOpenOfABeginning(t *testing.T) {
	r := rand.New(rand.NewSource(54))
	for range 200 {
		f := mayBe(r, 300)
		b, _ := frame.Seal(f)
		ahead := filled(r.Intn(5), r.Intn(256))
		all := append(bytes.Clone(ahead), b...)
		for n := range len(b) {
			wantOpenError(t, all[:len(ahead)+n], len(ahead), max(512, len(b)), api.ErrShort)
		}
	}
	for _, f := range greatest() {
		b, _ := frame.Seal(f)
		for _, n := range []int{0, 1, 3, 4, 5, 6, 7, 8, 9, 11, 12, 1019, 1020, 1021, api.MaxFrame / 2, api.MaxFrame - 1} {
			wantOpenError(t, b[:n], 0, api.MaxFrame, api.ErrShort)
		}
	}
}

// P5.4: what Open takes Seal writes just so, but for the channel's bytes of a guard frame.
func TestOpenAndSeal(t *testing.T) {
	r := rand.New(rand.NewSource(55))
	read := 0
	for range 40000 {
		b, at, most := anything(r)
		f, place, e := frame.Open(b, at, most)
		if e != api.OK {
			continue
		}
		read++
		want := bytes.Clone(b[at:place])
		if f.Type == api.FrameGuard {
			want[6], want[7] = 0, 0
		}
		wantSeal(t, f, want, api.OK)
		if t.Failed() {
			return
		}
	}
	if read < 4000 {
		t.Errorf("only %d frames were read", read)
	}
}

// P5.4: frames and headers, one behind the other, come back one after the other.
func TestARow(t *testing.T) {
	r := rand.New(rand.NewSource(56))
	var frames []api.Frame
	all, _ := frame.Header(api.ProtoGuard)
	for range 50 {
		f := mayBe(r, 400)
		b, _ := frame.Seal(f)
		all = append(all, b...)
		frames = append(frames, f)
	}
	all = append(all, mainHeader...)
	wantReadHeader(t, all, 0, api.ProtoGuard, 8, api.OK)
	at := 8
	for _, f := range frames {
		end := at + 8 + len(f.Ext) + len(f.Body)
		wantOpen(t, all, at, api.MaxFrame, f, end, api.OK)
		at = end
	}
	wantReadHeader(t, all, at, api.ProtoMain, len(all), api.OK)
}
