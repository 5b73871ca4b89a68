package perform_test

import (
	"testing"

	"longshore/api"
	"longshore/perform"
	"longshore/sample"
)

// The chapter's section 'Examples', row by row.

func TestExamplesOfWrite(t *testing.T) {
	for _, c := range []struct {
		p    api.Perform
		want string
	}{
		{perform.Blank(api.KClose), "00 53 18 45"},
		{perform.Blank(api.KTransfer), "00 53 14 c0 02 01 43"},
		{blank(api.KTransfer, func(p *api.Perform) { p.Handle, p.DeliveryId, p.HasTag, p.Tag, p.More = 1, 0, true, "t", true }), "00 53 14 c0 0a 06 52 01 43 a0 01 74 40 40 41"},
		{blank(api.KOpen, func(p *api.Perform) { p.Id, p.MaxFrame = "a", 512 }), "00 53 10 c0 0a 03 a1 01 61 40 70 00 00 02 00"},
		{blank(api.KDisposition, func(p *api.Perform) { p.Receiver, p.First, p.Settled, p.State.Kind = true, 3, true, api.KAccepted }), "00 53 15 c0 0a 05 41 52 03 40 41 00 53 24 45"},
		{blank(api.KFlow, func(p *api.Perform) { p.InWin, p.NextOut, p.OutWin = 8, 0, 9 }), "00 53 13 c0 07 04 40 52 08 43 52 09"},
	} {
		wantBytes(t, c.p, hex(c.want))
		wantRead(t, hex(c.want), c.p, len(hex(c.want)))
	}
}

func TestExamplesOfCheck(t *testing.T) {
	wantError(t, api.Perform{}, api.ErrPerform)
	wantError(t, blank(api.KEnd, func(p *api.Perform) { p.Handle = 1 }), api.ErrPerform)
	wantError(t, blank(api.KTransfer, func(p *api.Perform) { p.Tag = "t" }), api.ErrPerform)
	wantError(t, blank(api.KOpen, func(p *api.Perform) { p.MaxFrame = 511 }), api.ErrRange)
	wantError(t, blank(api.KOpen, func(p *api.Perform) { p.Id = long(65) }), api.ErrLong)
	wantError(t, blank(api.KOpen, func(p *api.Perform) { p.Id = "\xff" }), api.ErrText)
	wantError(t, blank(api.KOpen, func(p *api.Perform) { p.Props = sample.List() }), api.ErrField)
}

func TestExamplesOfRead(t *testing.T) {
	wantRead(t, hex("00 53 18 45"), perform.Blank(api.KClose), 4)
	wantFault(t, hex("00 53 18 45 40"), api.ErrPlain)
	wantRead(t, hex("00 53 14 c0 02 01 43 40 40"), perform.Blank(api.KTransfer), 7)
	wantFault(t, nil, api.ErrShort)
	wantFault(t, hex("40"), api.ErrPerform)
	wantFault(t, hex("00 53 24 45"), api.ErrPerform)
	wantFault(t, hex("00 53 14 45"), api.ErrMust)
	wantFault(t, encoded(parse(`(ulong 16 ["a" null uint 511])`)), api.ErrRange)
}

func TestNumbers(t *testing.T) {
	for _, c := range []struct {
		name      string
		got, want int
	}{
		{"KOpen", api.KOpen, 16}, {"KBegin", api.KBegin, 17}, {"KAttach", api.KAttach, 18}, {"KFlow", api.KFlow, 19}, {"KTransfer", api.KTransfer, 20}, {"KDisposition", api.KDisposition, 21}, {"KDetach", api.KDetach, 22}, {"KEnd", api.KEnd, 23}, {"KClose", api.KClose, 24},
		{"MaxPairs", api.MaxPairs, 1024}, {"MaxValue", api.MaxValue, 1048576}, {"MinFrame", api.MinFrame, 512}, {"MaxChannel", api.MaxChannel, 65535}, {"MaxWord", api.MaxWord, 4294967295}, {"MaxTag", api.MaxTag, 32}, {"MaxName", api.MaxName, 64},
		{"SndOpen", api.SndOpen, 0}, {"SndSettled", api.SndSettled, 1}, {"SndMixed", api.SndMixed, 2}, {"RcvFirst", api.RcvFirst, 0}, {"RcvSecond", api.RcvSecond, 1},
		{"ErrPerform", int(api.ErrPerform), 90}, {"ErrRange", int(api.ErrRange), 91}, {"ErrLong", int(api.ErrLong), 2}, {"ErrPlain", int(api.ErrPlain), 35}, {"ErrText", int(api.ErrText), 22}, {"ErrMap", int(api.ErrMap), 23}, {"ErrField", int(api.ErrField), 73},
	} {
		if c.got != c.want {
			t.Errorf("%s: %d, want %d", c.name, c.got, c.want)
		}
	}
}
