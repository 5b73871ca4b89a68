package frame_test

import (
	"encoding/binary"
	"encoding/hex"
	"fmt"
	"math"
	"strings"
	"testing"

	"longshore/api"
	"longshore/frame"
)

// The edges of an int: where a place or a number could run over.
var extremes = []int{math.MinInt, math.MinInt + 1, math.MinInt32, -1 << 20, -256, -8, -2, 1 << 21, math.MaxInt32, math.MaxInt - 8, math.MaxInt - 1, math.MaxInt}

// hexed is bytes out of digits, with blanks between.
func hexed(s string) []byte {
	b, err := hex.DecodeString(strings.ReplaceAll(s, " ", ""))
	if err != nil {
		panic(err)
	}
	return b
}

// filled is n bytes, each unlike its neighbours, which begin at a number of their own.
func filled(n, first int) []byte {
	b := make([]byte, n)
	for i := range b {
		b[i] = byte(first + i*7)
	}
	return b
}

func brief(b []byte) string {
	if len(b) > 40 {
		return fmt.Sprintf("% x .. (%d bytes)", b[:40], len(b))
	}
	return fmt.Sprintf("% x", b)
}

func told(f api.Frame) string {
	return fmt.Sprintf("{%d %d [%s] [%s]}", f.Type, f.Channel, brief(f.Ext), brief(f.Body))
}

func same(a, b api.Frame) bool {
	return a.Type == b.Type && a.Channel == b.Channel && string(a.Ext) == string(b.Ext) && string(a.Body) == string(b.Body)
}

// sealed is a frame's bytes as the chapter's table has them, whether they may be or not.
func sealed(f api.Frame) []byte {
	b := binary.BigEndian.AppendUint32(nil, uint32(8+len(f.Ext)+len(f.Body)))
	b = append(b, byte(2+len(f.Ext)/4), byte(f.Type))
	b = binary.BigEndian.AppendUint16(b, uint16(f.Channel))
	return append(append(b, f.Ext...), f.Body...)
}

// look is one of the things that P5.2 looks at, in its order: how many bytes it needs, whether it is amiss then, the error.
type look struct {
	need  int
	amiss bool
	e     api.Errno
}

// opened is what P5.2 asks of Open, said in another way: a list of looks over bytes that never end.
func opened(b []byte, at, most int) (api.Frame, int, api.Errno) {
	if at < 0 || at > len(b) || most < 512 || most > 1048576 {
		return api.Frame{}, 0, api.ErrArg
	}
	there := len(b) - at
	rest := append(append([]byte{}, b[at:]...), make([]byte, 8)...)
	size := int(binary.BigEndian.Uint32(rest))
	begin := 4 * int(rest[4])
	for _, l := range []look{
		{4, size < 8 || size > most, api.ErrSize},
		{5, begin < 8 || begin > size, api.ErrOffset},
		{6, rest[5] != 0 && rest[5] != 1, api.ErrType},
		{size, false, api.OK},
	} {
		if there < l.need {
			return api.Frame{}, 0, api.ErrShort
		}
		if l.amiss {
			return api.Frame{}, 0, l.e
		}
	}
	f := api.Frame{Type: int(rest[5]), Ext: rest[8:begin], Body: rest[begin:size]}
	if f.Type == 0 {
		f.Channel = 256*int(rest[6]) + int(rest[7])
	}
	return f, at + size, api.OK
}

func wantSeal(t *testing.T, f api.Frame, want []byte, wantErr api.Errno) {
	t.Helper()
	b, e := frame.Seal(f)
	if string(b) != string(want) || e != wantErr {
		t.Errorf("Seal(%s): %s, %d, want %s, %d", told(f), brief(b), e, brief(want), wantErr)
	}
}

// wantSealError: beside an error no bytes are answered.
func wantSealError(t *testing.T, f api.Frame, want api.Errno) {
	t.Helper()
	wantSeal(t, f, nil, want)
}

func wantOpen(t *testing.T, b []byte, at, most int, want api.Frame, wantPlace int, wantErr api.Errno) {
	t.Helper()
	f, place, e := frame.Open(b, at, most)
	if !same(f, want) || place != wantPlace || e != wantErr {
		t.Errorf("Open(%s, %d, %d): %s, %d, %d, want %s, %d, %d", brief(b), at, most, told(f), place, e, told(want), wantPlace, wantErr)
	}
}

// wantOpenError: beside an error neither a frame nor a place is answered.
func wantOpenError(t *testing.T, b []byte, at, most int, want api.Errno) {
	t.Helper()
	wantOpen(t, b, at, most, api.Frame{}, 0, want)
}

func wantHeader(t *testing.T, proto int, want []byte, wantErr api.Errno) {
	t.Helper()
	if b, e := frame.Header(proto); string(b) != string(want) || e != wantErr {
		t.Errorf("Header(%d): % x, %d, want % x, %d", proto, b, e, want, wantErr)
	}
}

func wantReadHeader(t *testing.T, b []byte, at, want, wantPlace int, wantErr api.Errno) {
	t.Helper()
	if proto, place, e := frame.ReadHeader(b, at); proto != want || place != wantPlace || e != wantErr {
		t.Errorf("ReadHeader(%s, %d): %d, %d, %d, want %d, %d, %d", brief(b), at, proto, place, e, want, wantPlace, wantErr)
	}
}
