package codec_test

import (
	"testing"

	"longshore/api"
	"longshore/codec"
)

// The chapter's section 'Examples', row by row.

func TestExamplesOfEncode(t *testing.T) {
	yes, null := num(api.Bool, 1), api.Value{}
	one := num(api.Uint, 1)
	wantForms(t, []form{
		{null, "40"}, {yes, "41"}, {num(api.Ubyte, 7), "50 07"},
		{num(api.Uint, 0), "43"}, {num(api.Uint, 255), "52 ff"}, {num(api.Uint, 256), "70 00 00 01 00"},
		{signed(api.Int, -1), "54 ff"}, {signed(api.Int, 128), "71 00 00 00 80"}, {signed(api.Long, -128), "55 80"},
		{text(api.String, "h\u00e9"), "a1 03 68 c3 a9"},
		{list(), "45"}, {list(yes, one), "c0 04 02 41 52 01"},
		{pairs(), "c1 01 00"}, {pairs(text(api.Symbol, "a"), null), "c1 05 02 a3 01 61 40"},
		{array(api.Uint), "e0 02 00 52"},
		{array(api.Uint, one, num(api.Uint, 0)), "e0 04 02 52 01 00"},
		{array(api.Uint, one, num(api.Uint, 256)), "e0 0a 02 70 00 00 00 01 00 00 01 00"},
		{array(api.Bool, yes, num(api.Bool, 0)), "e0 04 02 56 01 00"},
		{array(api.List, list(), list(yes)), "e0 07 02 c0 01 00 02 01 41"},
		{described(num(api.Ulong, 36), list()), "00 53 24 45"},
	})
}

func TestExamplesOfDecode(t *testing.T) {
	wantDecode(t, hex("56 01"), 0, num(api.Bool, 1), 2, api.OK)
	wantDecode(t, hex("52 00"), 0, num(api.Uint, 0), 2, api.OK)
	wantDecode(t, hex("80 00*7 05"), 0, num(api.Ulong, 5), 9, api.OK)
	wantFaults(t, []faulty{
		{"", 0, api.ErrShort}, {"70 00", 2, api.ErrShort}, {"a1 05 61", 3, api.ErrShort},
		{"5f", 0, api.ErrCode}, {"56 02", 1, api.ErrForm}, {"73 00 00 d8 00", 1, api.ErrForm},
		{"a1 02 c3 28", 2, api.ErrUtf}, {"a3 01 80", 2, api.ErrUtf},
		{"c0 00 00", 1, api.ErrSpan}, {"c0 02 01", 3, api.ErrShort}, {"c0 03 01 40", 4, api.ErrShort},
		{"c0 02 02 40", 1, api.ErrSpan}, {"c0 03 01 40 40", 1, api.ErrSpan},
		{"c0 03 01 a1 05", 1, api.ErrSpan},
		{"c1 02 01 40", 0, api.ErrKey}, {"c1 05 04 40 40 40 41", 0, api.ErrKey},
		{"e0 02 00 40", 3, api.ErrCode}, {"e0 01 00", 1, api.ErrSpan}, {"e0 03 01 56 02", 4, api.ErrForm},
	})
	if v, place, e := codec.Whole(hex("40 40")); written(v) != written(api.Value{}) || place != 1 || e != api.ErrPlain {
		t.Errorf("Whole(40 40): %s, %d, %d, want nothing, 1, ErrPlain", written(v), place, e)
	}
}
