package frame_test

import (
	"bytes"
	"math/rand"
	"testing"

	"longshore/api"
)

var (
	mainHeader  = hexed("4C 53 48 52 00 01 00 00")
	guardHeader = hexed("4C 53 48 52 03 01 00 00")
)

// P5.3: each protocol, those between, and those beyond.
func TestHeader(t *testing.T) {
	wantHeader(t, api.ProtoMain, mainHeader, api.OK)
	wantHeader(t, api.ProtoGuard, guardHeader, api.OK)
	// 256 and 259 have the lowest bytes of the two protocols.
	for _, proto := range append([]int{-3, -1, 1, 2, 4, 5, 255, 256, 259, 1 << 32, 1<<32 + 3}, extremes...) {
		wantHeader(t, proto, nil, api.ErrProto)
	}
}

// P5.3: places at their ends, and those beyond.
func TestReadHeaderArguments(t *testing.T) {
	for _, b := range [][]byte{nil, {}, {'L'}, {'x'}, mainHeader, guardHeader, append(bytes.Clone(guardHeader), mainHeader...)} {
		for _, at := range append([]int{-1, len(b) + 1, len(b) + 8}, extremes...) {
			wantReadHeader(t, b, at, 0, 0, api.ErrArg)
		}
		wantReadHeader(t, b, len(b), 0, 0, api.ErrShort)
	}
}

// P5.3: each byte at each place of a header, and all that may stand ahead and behind.
func TestReadHeaderByteByByte(t *testing.T) {
	for _, whole := range [][]byte{mainHeader, guardHeader} {
		for i := range 8 {
			for n := range 256 {
				b := bytes.Clone(whole)
				b[i] = byte(n)
				proto, place, e := 0, 0, api.ErrProto
				if bytes.Equal(b, mainHeader) || bytes.Equal(b, guardHeader) {
					proto, place, e = int(b[4]), 8, api.OK
				}
				wantReadHeader(t, b, 0, proto, place, e)
				// The bytes behind a wrong one need not have come, nor be right.
				if e != api.OK {
					wantReadHeader(t, b[:i+1], 0, 0, 0, api.ErrProto)
					wantReadHeader(t, append(b[:i+1:i+1], 0xee, 0xee), 0, 0, 0, api.ErrProto)
				}
				wantReadHeader(t, b[:i], 0, 0, 0, api.ErrShort)
			}
		}
	}
}

// P5.3: what stands at a place is known by the bytes that are there, and what stands in the spare room is not among them.
func TestReadHeaderStopsAtTheEnd(t *testing.T) {
	b := append(bytes.Clone(mainHeader), mainHeader...)
	for n := range 8 {
		wantReadHeader(t, b[:n], 0, 0, 0, api.ErrShort)
		wantReadHeader(t, b[:n], n+1, 0, 0, api.ErrArg)
		wantReadHeader(t, b[:8+n], 8, 0, 0, api.ErrShort)
	}
	wantReadHeader(t, hexed("4C 54 48 52")[:1], 0, 0, 0, api.ErrShort)
	for at := 1; at < 8; at++ {
		wantReadHeader(t, b, at, 0, 0, api.ErrProto)
	}
}

// P5.4, of headers: what Header wrote is read, behind anything and ahead of anything.
func TestHeadersBackAgain(t *testing.T) {
	r := rand.New(rand.NewSource(52))
	for range 2000 {
		whole, proto := mainHeader, api.ProtoMain
		if r.Intn(2) == 0 {
			whole, proto = guardHeader, api.ProtoGuard
		}
		wantHeader(t, proto, whole, api.OK)
		ahead := filled(r.Intn(20), r.Intn(256))
		if r.Intn(4) == 0 {
			ahead = append(ahead, mainHeader[:r.Intn(9)]...)
		}
		b := append(bytes.Clone(ahead), whole...)
		for n := range 8 {
			wantReadHeader(t, b[:len(ahead)+n], len(ahead), 0, 0, api.ErrShort)
		}
		wantReadHeader(t, append(b, filled(r.Intn(20), r.Intn(256))...), len(ahead), proto, len(ahead)+8, api.OK)
		wantReadHeader(t, append(b, whole...), len(ahead), proto, len(ahead)+8, api.OK)
	}
}
