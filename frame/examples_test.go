package frame_test

import (
	"testing"

	"longshore/api"
)

// The chapter's section 'Examples', row by row.

var first = hexed("00 00 00 0A 02 00 00 05 41 42")

func TestExamplesOfSeal(t *testing.T) {
	wantSeal(t, api.Frame{Type: api.FrameMain, Channel: 5, Body: hexed("41 42")}, first, api.OK)
	wantSeal(t, api.Frame{Type: api.FrameGuard, Ext: hexed("01 02 03 04")}, hexed("00 00 00 0C 03 01 00 00 01 02 03 04"), api.OK)
	wantSealError(t, api.Frame{Type: 2}, api.ErrType)
	wantSealError(t, api.Frame{Channel: 65536}, api.ErrChannel)
	wantSealError(t, api.Frame{Type: api.FrameGuard, Channel: 1}, api.ErrChannel)
	wantSealError(t, api.Frame{Ext: make([]byte, 3)}, api.ErrOffset)
}

func TestExamplesOfOpen(t *testing.T) {
	f := api.Frame{Type: api.FrameMain, Channel: 5, Body: hexed("41 42")}
	wantOpen(t, first, 0, 512, f, 10, api.OK)
	wantOpen(t, append(hexed("00 00 00 0A 02 00 00 05 41 42"), "and more"...), 0, 512, f, 10, api.OK)
	for _, c := range []struct {
		b string
		e api.Errno
	}{
		{"00 00 00", api.ErrShort}, {"00 00 00 07", api.ErrSize}, {"00 00 02 01", api.ErrSize},
		{"00 00 00 0A 03", api.ErrOffset}, {"00 00 00 0A 01", api.ErrOffset},
		{"00 00 00 0A 02 02", api.ErrType}, {"00 00 00 0A 02 00", api.ErrShort},
	} {
		wantOpenError(t, hexed(c.b), 0, 512, c.e)
	}
	wantOpen(t, hexed("00 00 00 08 02 01 12 34"), 0, 512, api.Frame{Type: api.FrameGuard}, 8, api.OK)
	wantOpenError(t, nil, 0, 511, api.ErrArg)
	wantOpenError(t, nil, 1, 512, api.ErrArg)
	wantOpenError(t, nil, 0, 512, api.ErrShort)
}

func TestExamplesOfHeaders(t *testing.T) {
	wantHeader(t, 3, hexed("4C 53 48 52 03 01 00 00"), api.OK)
	wantHeader(t, 1, nil, api.ErrProto)
	wantReadHeader(t, hexed("4C 53"), 0, 0, 0, api.ErrShort)
	wantReadHeader(t, hexed("4C 54"), 0, 0, 0, api.ErrProto)
	wantReadHeader(t, hexed("4C 53 48 52 01"), 0, 0, 0, api.ErrProto)
}

// DOC.md's second example of the whole.
func TestExamplesOfTheWhole(t *testing.T) {
	wantHeader(t, api.ProtoMain, hexed("4C 53 48 52 00 01 00 00"), api.OK)
	wantSeal(t, api.Frame{}, hexed("00 00 00 08 02 00 00 00"), api.OK)
}

func TestNumbers(t *testing.T) {
	for _, c := range []struct {
		name      string
		got, want int
	}{
		{"MinFrame", api.MinFrame, 512}, {"MaxFrame", api.MaxFrame, 1048576}, {"MaxChannel", api.MaxChannel, 65535},
		{"FrameMain", api.FrameMain, 0}, {"FrameGuard", api.FrameGuard, 1}, {"ProtoMain", api.ProtoMain, 0}, {"ProtoGuard", api.ProtoGuard, 3},
		{"ErrArg", int(api.ErrArg), 1}, {"ErrLong", int(api.ErrLong), 2}, {"ErrShort", int(api.ErrShort), 10},
		{"ErrProto", int(api.ErrProto), 50}, {"ErrSize", int(api.ErrSize), 51}, {"ErrOffset", int(api.ErrOffset), 52},
		{"ErrType", int(api.ErrType), 53}, {"ErrChannel", int(api.ErrChannel), 54},
	} {
		if c.got != c.want {
			t.Errorf("%s: %d, want %d", c.name, c.got, c.want)
		}
	}
}
