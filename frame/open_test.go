package frame_test

import (
	"encoding/binary"
	"math/rand"
	"testing"

	"longshore/api"
)

// bytesOf is a frame with a head that says anything, and so many bytes behind the head.
func bytesOf(size uint32, offset, kind byte, channel uint16, behind int) []byte {
	b := binary.BigEndian.AppendUint32(nil, size)
	b = append(b, offset, kind)
	b = binary.BigEndian.AppendUint16(b, channel)
	return append(b, filled(behind, 65)...)
}

// P5.2: places and greatest sizes at their ends, and those beyond.
func TestOpenArguments(t *testing.T) {
	for _, b := range [][]byte{nil, {}, {0}, first, hexed("00 00 00 07"), filled(700, 1)} {
		for _, at := range append([]int{-1, len(b) + 1, len(b) + 8}, extremes...) {
			for _, most := range append([]int{-1, 0, 8, 511, 512, 513, api.MaxFrame, api.MaxFrame + 1}, extremes...) {
				wantOpenError(t, b, at, most, api.ErrArg)
			}
		}
		for _, most := range append([]int{-1, 0, 8, 10, 511, api.MaxFrame + 1}, extremes...) {
			wantOpenError(t, b, 0, most, api.ErrArg)
			wantOpenError(t, b, len(b), most, api.ErrArg)
		}
		for _, most := range []int{512, 513, api.MaxFrame - 1, api.MaxFrame} {
			wantOpenError(t, b, len(b), most, api.ErrShort)
		}
	}
	f := api.Frame{Channel: 5, Body: []byte("AB")}
	for _, most := range []int{512, 513, 4096, api.MaxFrame - 1, api.MaxFrame} {
		wantOpen(t, first, 0, most, f, 10, api.OK)
	}
}

// P5.2: sizes at their ends, and those beyond.
func TestOpenSizes(t *testing.T) {
	for _, most := range []int{512, 513, 1000, 65536, api.MaxFrame - 1, api.MaxFrame} {
		behind := make([]byte, most)
		for _, size := range []int{0, 1, 6, 7, most + 1, most + 2, 1<<20 + 1, 1 << 24, 1<<24 + 10, 1<<31 - 1, 1 << 31, 1<<31 + 10, 1<<32 - 1} {
			wantOpenError(t, append(bytesOf(uint32(size), 2, 0, 5, 0), behind...), 0, most, api.ErrSize)
			wantOpenError(t, bytesOf(uint32(size), 2, 0, 5, 0)[:4], 0, most, api.ErrSize)
		}
		for _, size := range []int{8, 9, 10, 255, 256, 258, 511, most - 1, most} {
			b := bytesOf(uint32(size), 2, 0, 5, size-8)
			f := api.Frame{Channel: 5, Body: filled(size-8, 65)}
			wantOpen(t, b, 0, most, f, size, api.OK)
			wantOpen(t, append(b, 1, 2, 3), 0, most, f, size, api.OK)
			wantOpenError(t, b[:size-1], 0, most, api.ErrShort)
		}
	}
}

// P5.2: each offset, with sizes from the least that holds it down and up.
func TestOpenOffsets(t *testing.T) {
	for offset := range 256 {
		for _, size := range []int{8, 9, 11, 12, 4*offset - 1, 4 * offset, 4*offset + 1, 4*offset + 4, 1024} {
			if size < 8 {
				continue
			}
			b := bytesOf(uint32(size), byte(offset), 0, 5, size-8)
			if offset < 2 || 4*offset > size {
				wantOpenError(t, b, 0, 1024, api.ErrOffset)
				wantOpenError(t, b[:5], 0, 1024, api.ErrOffset)
				continue
			}
			f := api.Frame{Channel: 5, Ext: b[8 : 4*offset], Body: b[4*offset:]}
			wantOpen(t, b, 0, 1024, f, size, api.OK)
		}
	}
}

// P5.2: each type, and each channel byte; of a guard frame whatever stands there is 0.
func TestOpenTypesAndChannels(t *testing.T) {
	for kind := 2; kind < 256; kind++ {
		wantOpenError(t, bytesOf(13, 3, byte(kind), 0, 5), 0, 512, api.ErrType)
		wantOpenError(t, bytesOf(13, 3, byte(kind), 0, 5)[:6], 0, 512, api.ErrType)
	}
	for _, channel := range []int{0, 1, 2, 127, 128, 255, 256, 0x0102, 0x1234, 32767, 32768, 65280, 65534, 65535} {
		f := api.Frame{Type: api.FrameMain, Channel: channel, Ext: filled(5, 65)[:4], Body: filled(5, 65)[4:]}
		wantOpen(t, bytesOf(13, 3, 0, uint16(channel), 5), 0, 512, f, 13, api.OK)
		f.Type, f.Channel = api.FrameGuard, 0
		wantOpen(t, bytesOf(13, 3, 1, uint16(channel), 5), 0, 512, f, 13, api.OK)
	}
}

// P5.2: what is amiss first is the error, whatever is amiss behind it, and wherever the bytes end.
func TestOpenErrorsInOrder(t *testing.T) {
	for _, size := range []uint32{0, 7, 8, 9, 10, 12, 512, 513, 1<<32 - 1} {
		for _, offset := range []byte{0, 1, 2, 3, 4, 128, 129, 255} {
			for _, kind := range []byte{0, 1, 2, 255} {
				b := bytesOf(size, offset, kind, 0x1234, 512)
				for n := range len(b) + 1 {
					want, place, e := opened(b[:n], 0, 512)
					wantOpen(t, b[:n], 0, 512, want, place, e)
				}
			}
		}
	}
}

// P5.2: bytes in the spare room behind the end are not among the bytes.
func TestOpenStopsAtTheEnd(t *testing.T) {
	b := append(hexed("00 00 00 0A 02 00 00 05 41 42"), first...)
	for n := range 10 {
		wantOpenError(t, b[:n], 0, 512, api.ErrShort)
		wantOpenError(t, b[:n], n+1, 512, api.ErrArg)
	}
	bad := hexed("00 00 00 07 01 02 00 00")
	for n := range 4 {
		wantOpenError(t, bad[:n], 0, 512, api.ErrShort)
	}
}

// P5.2: any bytes, at any place, against the looks of the chapter.
func TestOpenOfAnything(t *testing.T) {
	r := rand.New(rand.NewSource(51))
	read := 0
	for range 40000 {
		b, at, most := anything(r)
		want, place, e := opened(b, at, most)
		wantOpen(t, b, at, most, want, place, e)
		if e == api.OK {
			read++
		}
		if t.Failed() {
			return
		}
	}
	if read < 4000 {
		t.Errorf("only %d of the frames could be read", read)
	}
}

// anything is bytes with what is often nearly a frame at a place.
func anything(r *rand.Rand) (b []byte, at, most int) {
	ahead := filled(r.Intn(12), r.Intn(256))
	size := r.Intn(600)
	offset := r.Intn(min(256, size/4+3))
	b = bytesOf(uint32(size), byte(offset), byte(r.Intn(3)), uint16(r.Intn(65536)), max(0, size-8))
	for range r.Intn(2) * r.Intn(2) {
		b[r.Intn(8)] = byte(r.Intn(256))
	}
	if r.Intn(3) == 0 {
		b = b[:r.Intn(len(b)+1)]
	}
	b = append(append(ahead, b...), filled(r.Intn(12), r.Intn(256))...)
	return b, len(ahead), 512 + r.Intn(2)*r.Intn(100)
}
