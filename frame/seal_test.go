package frame_test

import (
	"testing"

	"longshore/api"
	"longshore/frame"
)

// P5.1: each type, and those beyond.
func TestSealTypes(t *testing.T) {
	for _, kind := range []int{api.FrameMain, api.FrameGuard} {
		f := api.Frame{Type: kind, Ext: filled(8, 1), Body: filled(5, 100)}
		wantSeal(t, f, sealed(f), api.OK)
	}
	// 256 and 257 have the lowest bytes of the two types.
	for _, kind := range append([]int{-1, 2, 3, 255, 256, 257, 1 << 32}, extremes...) {
		wantSealError(t, api.Frame{Type: kind, Body: filled(5, 100)}, api.ErrType)
	}
}

// P5.1: channels at their ends, and those beyond, of both types.
func TestSealChannels(t *testing.T) {
	for _, channel := range []int{0, 1, 2, 5, 127, 128, 255, 256, 258, 0x1234, 32767, 32768, 65534, 65535} {
		f := api.Frame{Channel: channel, Body: filled(3, 9)}
		wantSeal(t, f, sealed(f), api.OK)
		if channel != 0 {
			wantSealError(t, api.Frame{Type: api.FrameGuard, Channel: channel, Body: filled(3, 9)}, api.ErrChannel)
		}
	}
	guard := api.Frame{Type: api.FrameGuard, Body: filled(3, 9)}
	wantSeal(t, guard, sealed(guard), api.OK)
	for _, channel := range append([]int{-1, 65536, 65537, 1 << 32}, extremes...) {
		wantSealError(t, api.Frame{Channel: channel}, api.ErrChannel)
		wantSealError(t, api.Frame{Type: api.FrameGuard, Channel: channel}, api.ErrChannel)
	}
}

// P5.1: an Ext of each length up to some beyond the greatest.
func TestSealExts(t *testing.T) {
	for n := range 1032 {
		for _, f := range []api.Frame{
			{Channel: 65535, Ext: filled(n, 1)},
			{Channel: 7, Ext: filled(n, 1), Body: filled(9, 200)},
			{Type: api.FrameGuard, Ext: filled(n, 1), Body: filled(1, 200)},
		} {
			if n%4 == 0 && n <= 1012 {
				wantSeal(t, f, sealed(f), api.OK)
			} else {
				wantSealError(t, f, api.ErrOffset)
			}
		}
	}
	for _, n := range []int{2036, 4096, 1 << 16, 1 << 20, 1<<20 + 1, 1<<20 + 4} {
		wantSealError(t, api.Frame{Ext: make([]byte, n)}, api.ErrOffset)
	}
}

// P5.1: frames around the greatest, whatever part of them is Ext.
func TestSealGreatest(t *testing.T) {
	for _, ext := range []int{0, 4, 1012} {
		for _, kind := range []int{api.FrameMain, api.FrameGuard} {
			for _, size := range []int{api.MaxFrame - 1, api.MaxFrame} {
				f := api.Frame{Type: kind, Ext: filled(ext, 1), Body: filled(size-8-ext, 77)}
				wantSeal(t, f, sealed(f), api.OK)
				if b, _ := frame.Seal(f); len(b) != size {
					t.Errorf("a frame of %d bytes has %d", size, len(b))
				}
			}
			for _, more := range []int{1, 2, 8, 1 << 20, 1 << 24} {
				f := api.Frame{Type: kind, Ext: filled(ext, 1), Body: make([]byte, api.MaxFrame-8-ext+more)}
				wantSealError(t, f, api.ErrLong)
			}
		}
	}
}

// P5.1: where several errors apply, the one that is named first.
func TestSealErrorsInOrder(t *testing.T) {
	long := make([]byte, api.MaxFrame)
	for _, odd := range [][]byte{make([]byte, 1), make([]byte, 1013), make([]byte, 1016)} {
		wantSealError(t, api.Frame{Type: 2, Channel: -1, Ext: odd, Body: long}, api.ErrType)
		wantSealError(t, api.Frame{Type: -1, Ext: odd, Body: long}, api.ErrType)
		wantSealError(t, api.Frame{Channel: 65536, Ext: odd, Body: long}, api.ErrChannel)
		wantSealError(t, api.Frame{Type: api.FrameGuard, Channel: 1, Ext: odd, Body: long}, api.ErrChannel)
		wantSealError(t, api.Frame{Ext: odd, Body: long}, api.ErrOffset)
	}
	wantSealError(t, api.Frame{Type: 2, Channel: -1}, api.ErrType)
	wantSealError(t, api.Frame{Type: 2, Body: long}, api.ErrType)
	wantSealError(t, api.Frame{Channel: -1, Body: long}, api.ErrChannel)
	wantSealError(t, api.Frame{Type: api.FrameGuard, Channel: 1, Body: long}, api.ErrChannel)
}

// DOC.md's R3: nil and an empty list are the same.
func TestSealOfNothing(t *testing.T) {
	for _, f := range []api.Frame{{}, {Ext: []byte{}}, {Body: []byte{}}, {Ext: []byte{}, Body: []byte{}}} {
		wantSeal(t, f, hexed("00 00 00 08 02 00 00 00"), api.OK)
		f.Type = api.FrameGuard
		wantSeal(t, f, hexed("00 00 00 08 02 01 00 00"), api.OK)
	}
}
