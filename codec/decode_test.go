package codec_test

import (
	"bytes"
	"math"
	"math/rand"
	"strings"
	"testing"

	"longshore/api"
	"longshore/codec"
	"longshore/value"
)

// P3.3: the place that is asked for.
func TestDecodeArguments(t *testing.T) {
	for _, b := range [][]byte{nil, {}, {0x40}, {0x52, 1, 2}} {
		for _, at := range []int{math.MinInt, -1 << 32, -2, -1, len(b) + 1, len(b) + 2, 1 << 32, math.MaxInt} {
			wantDecode(t, b, at, api.Value{}, 0, api.ErrArg)
		}
		wantDecode(t, b, len(b), api.Value{}, len(b), api.ErrShort)
	}
	// Spare room behind the end is not among the bytes.
	room := hex("40 70 00 00 00 01 40")
	wantDecode(t, room[:3], 1, api.Value{}, 3, api.ErrShort)
	wantDecode(t, room[:1], 2, api.Value{}, 0, api.ErrArg)
	wantDecode(t, room[:1], 1, api.Value{}, 1, api.ErrShort)
}

// P3.3, rule 1: each byte as a constructor, alone, in a span and in an array.
func TestDecodeOfEachConstructor(t *testing.T) {
	for code := range 256 {
		form, is := rowOf(byte(code))
		_, place, e := codec.Decode(append([]byte{byte(code)}, make([]byte, 40)...), 0)
		if is == (e == api.ErrCode) || !is && place != 0 {
			t.Errorf("%02x: %d, %d", code, place, e)
		}
		if !is {
			wantFault(t, []byte{0xc0, 3, 2, 0x40, byte(code)}, 4, api.ErrCode)
			wantFault(t, []byte{0x00, byte(code), 0x5f}, 1, api.ErrCode)
			wantFault(t, []byte{0x00, 0x40, byte(code)}, 2, api.ErrCode)
		}
		empty := []byte{0xe0, 2, 0, byte(code)}
		if !is || form.data == "-" || form.data == "d" {
			wantFault(t, empty, 3, api.ErrCode)
			wantFault(t, []byte{0xf0, 0, 0, 0, 6, 0, 0, 0, 1, byte(code), 0}, 9, api.ErrCode)
			wantFault(t, []byte{0xe0, 6, 1, 0xe0, 3, 1, byte(code), 0}, 6, api.ErrCode)
			continue
		}
		wantDecode(t, empty, 0, array(form.kind), 4, api.OK)
	}
}

// P3.3, rule 2: numbers, each form with its least, a middle and its greatest.
func TestDecodeOfNumbers(t *testing.T) {
	for _, form := range rows() {
		if !strings.Contains("1248", form.data) {
			continue
		}
		width := int(form.data[0] - '0')
		for _, fill := range []string{"00", "01", "7f", "80", "ff"} {
			for _, first := range []string{"00", "01", "7f", "80", "ff"} {
				b := append([]byte{form.code}, hex(first)...)
				b = append(b, bytes.Repeat(hex(fill), width-1)...)
				v, place, e := refDecode(b, 0)
				wantDecode(t, b, 0, v, place, e)
				wantDecode(t, append(b, 0xff), 0, v, place, e)
				for cut := 1; cut < len(b); cut++ {
					wantFault(t, b[:cut], cut, api.ErrShort)
				}
			}
		}
	}
	wantDecode(t, hex("71 ff ff ff 80"), 0, signed(api.Int, -128), 5, api.OK)
	wantDecode(t, hex("81 ff*7 80"), 0, signed(api.Long, -128), 9, api.OK)
	wantDecode(t, hex("51 80"), 0, signed(api.Byte, -128), 2, api.OK)
	wantDecode(t, hex("61 80 00"), 0, signed(api.Short, -32768), 3, api.OK)
	wantDecode(t, hex("54 ff"), 0, signed(api.Int, -1), 2, api.OK)
	wantDecode(t, hex("83 ff*8"), 0, signed(api.Time, -1), 9, api.OK)
	wantDecode(t, hex("72 ff*4"), 0, num(api.Float, 1<<32-1), 5, api.OK)
	wantDecode(t, hex("74 80 00 00 00"), 0, num(api.Dec32, 1<<31), 5, api.OK)
}

// P3.3, rule 2: ErrForm.
func TestDecodeOfWrongForms(t *testing.T) {
	for n := 2; n < 256; n++ {
		wantFault(t, []byte{0x56, byte(n)}, 1, api.ErrForm)
		wantFault(t, []byte{0xe0, 4, 2, 0x56, 1, byte(n)}, 5, api.ErrForm)
	}
	for _, c := range []string{"00 00 d8 00", "00 00 df ff", "00 11 00 00", "01 00 00 41", "80 00 00 41", "ff ff ff ff"} {
		wantFault(t, hex("73 "+c), 1, api.ErrForm)
		wantFault(t, hex("c0 06 01 73 "+c), 4, api.ErrForm)
		wantFault(t, hex("e0 0a 02 73 00 00 00 41 "+c), 8, api.ErrForm)
	}
	for _, c := range []uint64{0, 0xd7ff, 0xe000, 0x10ffff} {
		b := []byte{0x73, 0, byte(c >> 16), byte(c >> 8), byte(c)}
		wantDecode(t, b, 0, num(api.Char, c), 5, api.OK)
	}
}

// P3.3, rule 2: texts.
func TestDecodeOfTexts(t *testing.T) {
	wantFaults(t, []faulty{
		{"a0", 1, api.ErrShort}, {"a0 01", 2, api.ErrShort}, {"a3 03 61 62", 4, api.ErrShort}, {"b1 00 00 00", 4, api.ErrShort}, {"b1 00 00 00 02 61", 6, api.ErrShort}, {"b0 ff ff ff ff 61", 6, api.ErrShort},
		{"a1 02 c3 28", 2, api.ErrUtf}, {"a1 04 61 62 c3 28", 4, api.ErrUtf}, {"a1 02 61 c3 a9", 3, api.ErrUtf}, {"b1 00 00 00 02 61 ff", 6, api.ErrUtf}, {"a1 03 ed a0 80", 2, api.ErrUtf},
		{"a3 02 61 80", 3, api.ErrUtf}, {"b3 00 00 00 03 61 c3 a9", 6, api.ErrUtf}, {"a3 02 ff ff", 2, api.ErrUtf},
		{"a1 03 ff 61", 4, api.ErrShort}, // not all there, though the first byte is no text's
		{"c0 04 01 a1 01 80", 5, api.ErrUtf}, {"c0 04 01 a1 02 80", 1, api.ErrSpan}, {"c0 02 01 a1", 1, api.ErrSpan}, {"c0 04 01 b1 00 00 00 00", 1, api.ErrSpan},
		{"e0 06 02 a3 01 61 01 80", 7, api.ErrUtf}, {"e0 04 02 a3 01 61", 1, api.ErrSpan}, {"e0 04 01 a0 02 61", 1, api.ErrSpan}, {"e0 04 01 b0 00 00", 1, api.ErrSpan},
		{"94 00*15", 16, api.ErrShort}, {"98", 1, api.ErrShort}, {"c0 11 01 98 00*15", 1, api.ErrSpan},
	})
	wantDecode(t, hex("a0 02 ff 80 00"), 0, text(api.Binary, "\xff\x80"), 4, api.OK)
	wantDecode(t, hex("b0 00 00 00 00"), 0, text(api.Binary, ""), 5, api.OK)
	wantDecode(t, hex("b1 00 00 00 03 e2 82 ac"), 0, text(api.String, "\u20ac"), 8, api.OK)
	wantDecode(t, hex("a3 02 00 7f"), 0, text(api.Symbol, "\x00\x7f"), 4, api.OK)
	wantDecode(t, hex("94 ff*16"), 0, text(api.Dec128, strings.Repeat("\xff", 16)), 17, api.OK)
}

// P3.3, rule 2: spans of lists and maps, and SHORT within them.
func TestDecodeOfSpans(t *testing.T) {
	wantFaults(t, []faulty{
		{"c0", 1, api.ErrShort}, {"d0 00 00 00", 4, api.ErrShort}, {"c0 00", 1, api.ErrSpan}, {"d1 00 00 00 03", 1, api.ErrSpan}, {"d0 00 00 00 00", 1, api.ErrSpan},
		{"c0 01", 2, api.ErrShort}, {"c1 05 02 40", 4, api.ErrShort}, {"d0 00 00 00 04 00 00 00", 8, api.ErrShort}, {"d0 ff ff ff ff ff ff ff ff 40", 10, api.ErrShort},
		{"c0 01 01", 1, api.ErrSpan}, {"c0 01 ff", 1, api.ErrSpan}, {"d0 00 00 00 04 ff ff ff ff", 1, api.ErrSpan}, {"d0 00 00 00 05 ff ff ff ff 40", 1, api.ErrSpan},
		{"c0 02 00 40", 1, api.ErrSpan}, {"d0 00 00 00 05 00 00 00 00 40", 1, api.ErrSpan}, {"c1 02 00 5f", 1, api.ErrSpan},
		{"c0 01 01 40", 1, api.ErrSpan},             // the byte behind the span is none of its own
		{"c0 03 02 40 5f", 4, api.ErrCode},          // ahead of the size
		{"c0 04 01 40 5f 5f", 1, api.ErrSpan},       // what is left is not looked at
		{"c0 05 01 c0 01 01 40", 4, api.ErrSpan},    // the inner span counts
		{"c0 05 02 c0 02 01 40", 1, api.ErrSpan},    // the inner one is over: the outer one counts
		{"c0 04 01 c0 03 00 40 40", 1, api.ErrSpan}, // the inner one leaves the outer one
		{"c0 02 01 c0 01 00", 1, api.ErrSpan},       // its size does
		{"c0 03 01 c0 00 00", 4, api.ErrSpan},       // a size below the count's width, ahead of what is there
		{"d0 00 00 00 08 00 00 00 01 d0 00 00 00", 1, api.ErrSpan},
		{"d0 00 00 00 09 00 00 00 01 d0 00 00 00 03", 10, api.ErrSpan},
		{"d0 00 00 00 09 00 00 00 01 d0 00 00 00 04", 1, api.ErrSpan},
		{"c0 03 01 00 40", 1, api.ErrSpan}, {"c0 02 01 00", 1, api.ErrSpan}, {"00 c0 02 01 00 40", 2, api.ErrSpan},
		{"c0 03 01 70 00 00 00 00", 1, api.ErrSpan}, {"c0 06 01 c0 04 01 52 00", 1, api.ErrSpan}, {"c0 06 01 c0 02 01 52 00", 4, api.ErrSpan},
		{"00", 1, api.ErrShort}, {"00 40", 2, api.ErrShort}, {"00 00 40 40", 4, api.ErrShort}, {"00 c0 01 00", 4, api.ErrShort},
	})
	null := api.Value{}
	wantDecode(t, hex("c0 01 00"), 0, list(), 3, api.OK)
	wantDecode(t, hex("d0 00 00 00 04 00 00 00 00"), 0, list(), 9, api.OK)
	wantDecode(t, hex("d0 00 00 00 06 00 00 00 02 40 41"), 0, list(null, num(api.Bool, 1)), 11, api.OK)
	wantDecode(t, hex("d1 00 00 00 04 00 00 00 00"), 0, pairs(), 9, api.OK)
	wantDecode(t, hex("d1 00 00 00 06 00 00 00 02 43 c0"), 0, null, 1, api.ErrSpan)
	wantDecode(t, hex("d1 00 00 00 06 00 00 00 02 43 45 c0"), 0, pairs(num(api.Uint, 0), list()), 11, api.OK)
	wantDecode(t, hex("c0 07 02 c0 02 01 40 45 ff"), 0, null, 1, api.ErrSpan)
	wantDecode(t, hex("c0 06 02 c0 02 01 40 45 ff"), 0, list(list(null), list()), 8, api.OK)
	wantDecode(t, hex("00 52 00 00 40 41 5f"), 0, described(num(api.Uint, 0), described(null, num(api.Bool, 1))), 6, api.OK)
}

// P3.3, rule 2: maps' keys and their place.
func TestDecodeOfMaps(t *testing.T) {
	wantFaults(t, []faulty{
		{"c1 01 01", 0, api.ErrKey}, {"c1 02 03 5f", 0, api.ErrKey}, {"d1 00 00 00 04 ff ff ff ff", 0, api.ErrKey},
		{"c1 02 01", 3, api.ErrShort}, {"c1 00 01", 1, api.ErrSpan}, // ahead of the count
		{"c1 05 04 40 40 40 41", 0, api.ErrKey}, {"c1 06 04 43 40 52 00 40", 0, api.ErrKey}, {"c1 05 04 40 40 40 5f", 6, api.ErrCode},
		{"c1 06 04 40 40 40 41 41", 1, api.ErrSpan}, // bytes left, ahead of the keys
		{"c1 09 06 41 40 42 40 56 01 40 40", 1, api.ErrSpan}, {"c1 08 06 41 40 42 40 56 01 40", 0, api.ErrKey},
		{"c1 08 06 45 40 c0 01 00 40 44 40", 1, api.ErrSpan}, {"c1 09 06 45 40 44 40 c0 01 00 40", 0, api.ErrKey},
		{"c0 03 01 c1 01 01", 1, api.ErrSpan}, // the inner span ends behind the outer one
		{"c0 05 01 c1 02 01 40", 3, api.ErrKey}, {"c0 09 02 40 c1 05 04 40 40 40 41", 4, api.ErrKey}, {"00 40 c1 02 01 40", 2, api.ErrKey},
		{"c1 09 02 40 c1 05 04 40 40 40 41", 4, api.ErrKey}, {"c1 09 02 c1 05 04 40 40 40 41 40", 3, api.ErrKey},
		{"e0 05 01 c1 02 01 40", 4, api.ErrKey}, {"e0 07 02 c1 01 00 02 01 40", 6, api.ErrKey}, {"e0 0a 02 c1 01 00 05 04 40 40 40 41", 6, api.ErrKey},
		{"e0 0b 01 d1 00 00 00 05 00 00 00 01 40", 4, api.ErrKey}, {"e0 08 01 e0 05 01 c1 02 01 40", 7, api.ErrKey}, {"e0 07 01 e0 04 01 c1 01 01", 7, api.ErrKey},
		{"e0 0b 01 d1 00 00 00 05 00 00 08 02 40", 4, api.ErrLong},
	})
	null := api.Value{}
	wantDecode(t, hex("c1 05 04 43 40 44 40"), 0, pairs(num(api.Uint, 0), null, num(api.Ulong, 0), null), 7, api.OK)
	wantDecode(t, hex("c1 0d 04 72 00 00 00 00 40 72 80 00 00 00 40"), 0, pairs(num(api.Float, 0), null, num(api.Float, 1<<31), null), 15, api.OK)
}

// P3.3: 1024 pairs and 1025, in either order of the keys; an odd count comes first, elements come later.
func TestDecodeOfManyPairs(t *testing.T) {
	full := pairs(keyed(1024)...)
	b := shortestForm(full)
	wantDecode(t, b, 0, full, len(b), api.OK)
	for _, c := range []struct {
		last string
		e    api.Errno
	}{{"07 ff", api.OK}, {"00 00", api.ErrKey}, {"01 00", api.ErrKey}} {
		twice := append(bytes.Clone(b[:len(b)-3]), append(hex(c.last), 0x40)...)
		if _, place, e := codec.Decode(twice, 0); e != c.e || e != api.OK && place != 0 {
			t.Errorf("1024 pairs with the last key %s: %d, %d, want %d", c.last, place, e, c.e)
		}
	}
	over := bytes.Clone(b)
	over[7], over[8] = 0x08, 0x02
	wantFault(t, over, 0, api.ErrLong)
	over[9] = 0x5f
	wantFault(t, over, 0, api.ErrLong)
	over[8] = 0x03
	wantFault(t, over, 0, api.ErrKey)
	wantFault(t, append(hex("c0 0a 01"), hex("d1 00 00 00 04 00 00 08 02")...), 3, api.ErrLong)
	wantFault(t, hex("d1 00 00 00 04 ff ff ff fe"), 0, api.ErrLong)
	wantFault(t, hex("d1 00 00 00 04 00 00 08 00"), 1, api.ErrSpan)
}

// P3.3, rule 2: arrays.
func TestDecodeOfArrays(t *testing.T) {
	wantFaults(t, []faulty{
		{"e0", 1, api.ErrShort}, {"e0 00", 1, api.ErrSpan}, {"e0 01", 1, api.ErrSpan}, {"e0 02", 2, api.ErrShort}, {"e0 02 00", 3, api.ErrShort},
		{"f0 00 00 00", 4, api.ErrShort}, {"f0 00 00 00 04", 1, api.ErrSpan}, {"f0 00 00 00 05 00 00 00 00", 9, api.ErrShort}, {"f0 ff ff ff ff 00 00 00 00 50", 10, api.ErrShort},
		{"e0 02 00 5f", 3, api.ErrCode}, {"e0 03 01 40 40", 3, api.ErrCode}, {"e0 02 ff 00", 3, api.ErrCode},
		{"e0 02 01 50", 1, api.ErrSpan}, {"e0 03 00 50 01", 1, api.ErrSpan}, {"e0 04 01 50 01 01", 1, api.ErrSpan}, {"e0 03 02 50 01 01", 1, api.ErrSpan}, {"f0 00 00 00 06 ff ff ff ff 50 01", 1, api.ErrSpan},
		{"e0 05 02 60 01 02 03", 1, api.ErrSpan}, {"e0 04 02 56 02 03", 4, api.ErrForm}, {"e0 04 02 56 01 02", 5, api.ErrForm},
		{"e0 04 02 c0 01 00", 1, api.ErrSpan}, {"e0 04 01 c0 00 00", 4, api.ErrSpan}, {"e0 04 01 c0 02 00", 1, api.ErrSpan}, {"e0 05 01 c0 02 00 40", 4, api.ErrSpan}, {"e0 05 01 c0 02 01 5f", 6, api.ErrCode},
		{"e0 04 01 e0 01 00", 4, api.ErrSpan}, {"e0 05 01 e0 02 00 40", 6, api.ErrCode}, {"e0 06 01 e0 03 02 50 01", 4, api.ErrSpan}, {"e0 07 02 e0 03 01 50 01 02", 1, api.ErrSpan}, {"e0 06 02 e0 02 00 50 00", 7, api.ErrSpan},
		{"c0 04 01 e0 02 00", 1, api.ErrSpan}, {"c0 03 01 e0 02", 1, api.ErrSpan}, {"c0 03 01 e0 02 00 50", 1, api.ErrSpan}, {"c0 02 01 e0 02 00 50", 1, api.ErrSpan},
	})
	one := num(api.Uint, 1)
	wantDecode(t, hex("f0 00 00 00 07 00 00 00 02 52 01 01 40"), 0, array(api.Uint, one, one), 12, api.OK)
	wantDecode(t, hex("e0 06 01 70 00 00 00 01"), 0, array(api.Uint, one), 8, api.OK)
	wantDecode(t, hex("e0 05 02 a1 00 01 61"), 0, array(api.String, text(api.String, ""), text(api.String, "a")), 7, api.OK)
	wantDecode(t, hex("e0 0a 01 d0 00 00 00 04 00 00 00 00"), 0, array(api.List, list()), 12, api.OK)
	wantDecode(t, hex("e0 0b 02 f0 00 00 00 05 00 00 00 00 50"), 0, api.Value{}, 1, api.ErrSpan)
	wantDecode(t, hex("e0 08 02 e0 02 00 73 03 01 50 07"), 0, api.Value{}, 1, api.ErrSpan)
	wantDecode(t, hex("e0 09 02 e0 02 00 73 03 01 50 07"), 0, array(api.Array, array(api.Char), array(api.Ubyte, num(api.Ubyte, 7))), 11, api.OK)
}

// nest lays bytes that stand at the depth 33 into 32 values, one in the other, of which the innermost one is of another kind.
func nest(depth int, outer, inner func([]byte) []byte, b []byte) []byte {
	b = inner(b)
	for range depth - 1 {
		b = outer(b)
	}
	return b
}

func inSpan(code byte, ahead ...byte) func([]byte) []byte {
	return func(b []byte) []byte {
		size := 4 + len(ahead) + len(b)
		count := 1 + len(ahead)
		if code == 0xf0 {
			count = 1
		}
		head := []byte{code, byte(size >> 24), byte(size >> 16), byte(size >> 8), byte(size), 0, 0, 0, byte(count)}
		return append(append(head, ahead...), b...)
	}
}

func inDescribed(b []byte) []byte { return append([]byte{0x00, 0x40}, b...) }

func asDescriptor(b []byte) []byte { return append(append([]byte{0x00}, b...), 0x40) }

// P3.3: 32 values in one another are read, the next one is ErrDeep at its place, behind SHORT and ErrCode.
func TestDecodeOfDeepValues(t *testing.T) {
	wraps := []func([]byte) []byte{inSpan(0xd0), inSpan(0xd0, 0x40), inSpan(0xd1, 0x40), inDescribed, asDescriptor}
	for _, outer := range wraps {
		for _, inner := range append(wraps, inSpan(0xf0, 0x52)) {
			for _, leaf := range [][]byte{{0x00}, {0x40}, {0x5f}, {0x52, 0x01}, {0x43}, {0x45}, {0xc0, 0x01, 0x00}, {0xc0, 0x05}, {}, {0x03, 0x61}} {
				for _, depth := range []int{30, 31, 32, 33} {
					b := nest(depth, outer, inner, leaf)
					v, place, e := refDecode(b, 0)
					wantDecode(t, b, 0, v, place, e)
				}
			}
		}
	}
	deepest := nest(31, inSpan(0xd0), inSpan(0xd0), []byte{0x40})
	if v, _, e := codec.Decode(deepest, 0); e != api.OK || value.Depth(v) != 32 {
		t.Errorf("32 values in one another: %d, depth %d", e, value.Depth(v))
	}
	wantFault(t, nest(32, inSpan(0xd0), inSpan(0xd0), []byte{0x40}), 32*9, api.ErrDeep)
	wantFault(t, nest(32, inSpan(0xd0), inSpan(0xd0), []byte{0x5f}), 32*9, api.ErrCode)
	wantFault(t, nest(32, inSpan(0xd0), inSpan(0xd0), nil), 31*9+1, api.ErrSpan)
	wantFault(t, bytes.Repeat([]byte{0x00}, 32), 32, api.ErrShort)
	wantFault(t, nest(32, inSpan(0xd0), inSpan(0xf0, 0x56), []byte{0x02}), 32*9+1, api.ErrDeep)
	wantFault(t, nest(32, inSpan(0xd0), inSpan(0xf0, 0x56), nil), 32*9+1, api.ErrDeep)
	wantFault(t, nest(32, inSpan(0xd0), inSpan(0xf0, 0x40), nil), 32*9, api.ErrCode)
	wantFault(t, bytes.Repeat([]byte{0x00}, 1<<16), 32, api.ErrDeep)
	var arrays []byte
	for range 1 << 12 {
		arrays = append(append([]byte{}, hex("ff ff ff ff 00 00 00 01 f0")...), arrays...)
	}
	wantFault(t, append([]byte{0xf0}, arrays...), 1+len(arrays), api.ErrShort)
}

// P3.3: arrays in one another, 32 and 33 deep.
func TestDecodeOfDeepArrays(t *testing.T) {
	for _, depth := range []int{30, 31, 32, 33, 34} {
		data := []byte{4, 2, 0x50, 7, 8}
		for range depth - 2 {
			size := 2 + len(data)
			data = append([]byte{byte(size), 1, 0xe0}, data...)
		}
		b := append([]byte{0xe0}, data...)
		v, place, e := refDecode(b, 0)
		wantDecode(t, b, 0, v, place, e)
		if depth <= 32 != (e == api.OK) {
			t.Errorf("arrays whose elements are %d deep: %d", depth, e)
		}
	}
}

// P3.3, rule 3: more than MaxValue bytes, however few the shortest form has; behind all other faults.
func TestDecodeOfLongValues(t *testing.T) {
	most := hex("b0 00 0f ff fb 61*1048571")
	wantDecode(t, most, 0, text(api.Binary, strings.Repeat("a", api.MaxValue-5)), api.MaxValue, api.OK)
	wantDecode(t, append(hex("40 40"), append(most, most...)...), 2, text(api.Binary, strings.Repeat("a", api.MaxValue-5)), api.MaxValue+2, api.OK)
	wantFault(t, hex("b0 00 0f ff fc 61*1048572"), 0, api.ErrLong)
	wantFault(t, hex("b1 00 0f ff fc 61*1048571 80"), api.MaxValue, api.ErrUtf)
	wantFault(t, hex("d0 00 0f ff fc 00 0f ff f8 40*1048568"), 0, api.ErrLong)
	wantFault(t, hex("d0 00 0f ff fc 00 0f ff f7 40*1048568"), 1, api.ErrSpan)
	wantFault(t, hex("d0 00 0f ff fc 00 0f ff f8 40*1048567 5f"), api.MaxValue, api.ErrCode)
	wantDecode(t, hex("d0 00 0f ff fb 00 0f ff f7 40*1048567"), 0, list(many(api.MaxValue-9, api.Value{})...), api.MaxValue, api.OK)
	loose := append(hex("d0 00 10 05 94 00 03 34 50"), bytes.Repeat(hex("70 00 00 00 00"), 210000)...)
	wantFault(t, loose, 0, api.ErrLong)
	inner := append(hex("c0 01 00 00 40"), hex("b0 00 10 00 00 61*1048576")...)
	wantDecode(t, inner, 3, api.Value{}, 3, api.ErrLong)
	wantDecode(t, inner, 5, api.Value{}, 5, api.ErrLong)
}

// P3.3: any bytes, held against another reader.
func TestDecodeOfAnyBytes(t *testing.T) {
	r, simple := rand.New(rand.NewSource(33)), edges()
	var seen [100]int
	for range 60000 {
		b := anyForm(r, mayBe(r.Intn, simple, r.Intn(4)))
		if len(b) > 3000 {
			continue
		}
		b = spoil(r, b)
		at := r.Intn(3)
		b = append(make([]byte, at), b...)
		v, place, e := refDecode(b, at)
		wantDecode(t, b, at, v, place, e)
		seen[e]++
	}
	for _, e := range []api.Errno{api.OK, api.ErrShort, api.ErrCode, api.ErrForm, api.ErrSpan, api.ErrUtf, api.ErrKey} {
		if seen[e] < 20 {
			t.Errorf("error %d was met %d times", e, seen[e])
		}
	}
}

// spoil changes some bytes, most often by little.
func spoil(r *rand.Rand, b []byte) []byte {
	for range r.Intn(4) {
		if len(b) == 0 {
			break
		}
		i := r.Intn(min(len(b), 1+r.Intn(40)))
		switch r.Intn(6) {
		case 0:
			b[i] = byte(r.Intn(256))
		case 1:
			b[i] += byte(r.Intn(5) - 2)
		case 2:
			b = b[:i]
		case 3:
			b = append(b[:i], b[i+1:]...)
		case 4:
			b = append(b[:i], append([]byte{rows()[r.Intn(40)].code}, b[i:]...)...)
		default:
			b[i] = rows()[r.Intn(40)].code
		}
	}
	return b
}

// P3.4
func TestWhole(t *testing.T) {
	null := api.Value{}
	for _, c := range []struct {
		b     string
		v     api.Value
		place int
		e     api.Errno
	}{
		{"40", null, 0, api.OK}, {"52 00", num(api.Uint, 0), 0, api.OK}, {"c0 01 00", list(), 0, api.OK},
		{"40 40", null, 1, api.ErrPlain}, {"41 5f", null, 1, api.ErrPlain}, {"a0 01 61 00", null, 3, api.ErrPlain}, {"c0 03 02 40 40 40", null, 5, api.ErrPlain},
		{"", null, 0, api.ErrShort}, {"a0 05", null, 2, api.ErrShort}, {"5f 40", null, 0, api.ErrCode}, {"56 02 40", null, 1, api.ErrForm}, {"b0 00 0f ff fc 61*1048573", null, 0, api.ErrLong},
	} {
		v, place, e := codec.Whole(hex(c.b))
		if !same(v, c.v) || place != c.place || e != c.e {
			t.Errorf("Whole(%.40s): %s, %d, %d, want %s, %d, %d", c.b, written(v), place, e, written(c.v), c.place, c.e)
		}
	}
}

// P3.5
func TestShortest(t *testing.T) {
	for _, c := range []struct {
		b    string
		want bool
	}{
		{"40", true}, {"41", true}, {"56 01", false}, {"43", true}, {"52 00", false}, {"52 01", true}, {"70 00 00 00 ff", false}, {"70 00 00 01 00", true},
		{"54 80", true}, {"71 ff ff ff 80", false}, {"71 ff ff ff 7f", true}, {"a0 00", true}, {"b0 00 00 00 00", false}, {"b0 00 00 01 00 61*256", true},
		{"45", true}, {"c0 01 00", false}, {"d0 00 00 00 04 00 00 00 00", false}, {"c1 01 00", true}, {"d1 00 00 00 04 00 00 00 00", false},
		{"c0 02 01 43", true}, {"c0 03 01 52 00", false}, {"e0 02 00 52", true}, {"e0 02 00 70", false}, {"f0 00 00 00 05 00 00 00 00 52", false}, {"e0 03 01 52 00", true}, {"e0 06 01 70 00 00 00 00", false},
		{"00 53 24 45", true}, {"00 80 00*7 24 45", false}, {"", false}, {"40 40", false}, {"5f", false}, {"56 02", false}, {"a0 01", false},
	} {
		if got := codec.Shortest(hex(c.b)); got != c.want {
			t.Errorf("Shortest(%.40s): %t, want %t", c.b, got, c.want)
		}
	}
	r, simple := rand.New(rand.NewSource(34)), edges()
	for range 3000 {
		v := mayBe(r.Intn, simple, r.Intn(4))
		b := anyForm(r, v)
		if got, want := codec.Shortest(b), bytes.Equal(b, shortestForm(v)); got != want {
			t.Errorf("Shortest(%s): %t, want %t", brief(b), got, want)
		}
	}
}

// P3.6, DOC.md's P0.2
func TestDecodeOfWhatEncodeWrote(t *testing.T) {
	r, simple := rand.New(rand.NewSource(35)), edges()
	for i := range 3000 {
		v := mayBe(r.Intn, simple, r.Intn(5))
		if i < len(simple) {
			v = simple[i]
		}
		b, e := codec.Encode(v)
		if e != api.OK {
			t.Fatalf("Encode(%s): %d", written(v), e)
		}
		ahead, behind := make([]byte, r.Intn(6)), make([]byte, r.Intn(6))
		r.Read(ahead)
		r.Read(behind)
		all := append(append(ahead, b...), behind...)
		wantDecode(t, all, len(ahead), v, len(ahead)+len(b), api.OK)
		if w, place, e := codec.Whole(b); !same(w, v) || place != 0 || e != api.OK || !codec.Shortest(b) {
			t.Errorf("Whole(%s): %.200s, %d, %d", brief(b), written(w), place, e)
		}
	}
}

// P3.7
func TestDecodeOfBeginnings(t *testing.T) {
	r, simple := rand.New(rand.NewSource(36)), edges()
	for range 400 {
		v := mayBe(r.Intn, simple, r.Intn(4))
		b, _ := codec.Encode(v)
		for cut := range b {
			if cut > 400 && r.Intn(50) > 0 {
				continue
			}
			v, place, e := codec.Decode(b[:cut:cut], 0)
			if !same(v, api.Value{}) || place != cut || e != api.ErrShort {
				t.Fatalf("Decode of %d bytes of %s: %s, %d, %d", cut, brief(b), written(v), place, e)
			}
		}
	}
}

// P3.8
func TestWhatDecodeTakes(t *testing.T) {
	r, simple := rand.New(rand.NewSource(37)), edges()
	taken := 0
	for i := range 20000 {
		b := anyForm(r, mayBe(r.Intn, simple, r.Intn(4)))
		if i%2 == 0 {
			b = spoil(r, b)
		}
		v, next, e := codec.Decode(b, 0)
		if e != api.OK {
			continue
		}
		taken++
		if f := value.Check(v); f != api.OK {
			t.Fatalf("Decode took %s, Check: %d", brief(b), f)
		}
		again, f := codec.Encode(v)
		if f != api.OK || len(again) > next {
			t.Fatalf("Encode of what was read from %d bytes: %d bytes, %d", next, len(again), f)
		}
		wantDecode(t, again, 0, v, len(again), api.OK)
	}
	if taken < 8000 {
		t.Errorf("only %d were taken", taken)
	}
}
