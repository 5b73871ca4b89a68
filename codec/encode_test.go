package codec_test

import (
	"math/rand"
	"slices"
	"strings"
	"testing"

	"longshore/api"
	"longshore/codec"
	"longshore/value"
)

func TestErrorNumbers(t *testing.T) {
	got := []api.Errno{api.ErrCode, api.ErrForm, api.ErrSpan, api.ErrUtf, api.ErrKey, api.ErrPlain, api.ErrArg, api.ErrLong, api.ErrShort, api.ErrDeep}
	if want := []api.Errno{30, 31, 32, 33, 34, 35, 1, 2, 10, 26}; !slices.Equal(got, want) {
		t.Errorf("the errors' numbers: %d, want %d", got, want)
	}
}

// P3.1: each kind at the ends of its constructors.
func TestEncodeAtTheEndsOfConstructors(t *testing.T) {
	fixed, ofFixed := "\x000123456789abcd\xff", " 00 30 31 32 33 34 35 36 37 38 39 61 62 63 64 ff"
	wantForms(t, []form{
		{api.Value{}, "40"}, {num(api.Bool, 1), "41"}, {num(api.Bool, 0), "42"},
		{num(api.Ubyte, 0), "50 00"}, {num(api.Ubyte, 255), "50 ff"}, {num(api.Ushort, 0), "60 00 00"}, {num(api.Ushort, 65535), "60 ff ff"},
		{num(api.Uint, 0), "43"}, {num(api.Uint, 1), "52 01"}, {num(api.Uint, 255), "52 ff"}, {num(api.Uint, 256), "70 00 00 01 00"}, {num(api.Uint, 1<<32-1), "70 ff ff ff ff"},
		{num(api.Ulong, 0), "44"}, {num(api.Ulong, 1), "53 01"}, {num(api.Ulong, 255), "53 ff"}, {num(api.Ulong, 256), "80 00*6 01 00"}, {num(api.Ulong, 1<<64-1), "80 ff*8"},
		{signed(api.Byte, -128), "51 80"}, {signed(api.Byte, 127), "51 7f"}, {signed(api.Short, -32768), "61 80 00"}, {signed(api.Short, 1), "61 00 01"},
		{signed(api.Int, 0), "54 00"}, {signed(api.Int, -128), "54 80"}, {signed(api.Int, 127), "54 7f"}, {signed(api.Int, -129), "71 ff ff ff 7f"}, {signed(api.Int, 128), "71 00 00 00 80"}, {signed(api.Int, 255), "71 00 00 00 ff"}, {signed(api.Int, -1<<31), "71 80 00 00 00"},
		{signed(api.Long, 0), "55 00"}, {signed(api.Long, -128), "55 80"}, {signed(api.Long, 127), "55 7f"}, {signed(api.Long, -129), "81 ff*7 7f"}, {signed(api.Long, 128), "81 00*7 80"}, {signed(api.Long, -1<<63), "81 80 00*7"},
		{num(api.Float, 0x80000001), "72 80 00 00 01"}, {num(api.Float, 0), "72 00*4"}, {num(api.Double, 1<<63|2), "82 80 00*6 02"}, {num(api.Double, 0), "82 00*8"},
		{num(api.Dec32, 0x01020304), "74 01 02 03 04"}, {num(api.Dec64, 0x0102030405060708), "84 01 02 03 04 05 06 07 08"}, {text(api.Dec128, fixed), "94" + ofFixed},
		{num(api.Char, 0), "73 00*4"}, {num(api.Char, 0x10ffff), "73 00 10 ff ff"}, {num(api.Char, 0xd7ff), "73 00 00 d7 ff"}, {num(api.Char, 0xe000), "73 00 00 e0 00"},
		{signed(api.Time, -1), "83 ff*8"}, {signed(api.Time, 0), "83 00*8"}, {text(api.Uuid, fixed), "98" + ofFixed},
		{text(api.Binary, ""), "a0 00"}, {text(api.String, ""), "a1 00"}, {text(api.Symbol, ""), "a3 00"},
		{text(api.Binary, strings.Repeat("a", 255)), "a0 ff 61*255"}, {text(api.String, strings.Repeat("a", 255)), "a1 ff 61*255"}, {text(api.Symbol, strings.Repeat("a", 255)), "a3 ff 61*255"},
		{text(api.Binary, strings.Repeat("a", 256)), "b0 00 00 01 00 61*256"}, {text(api.String, strings.Repeat("a", 256)), "b1 00 00 01 00 61*256"}, {text(api.Symbol, strings.Repeat("a", 256)), "b3 00 00 01 00 61*256"},
		{described(list(), described(api.Value{}, num(api.Uint, 0))), "00 45 00 40 43"},
	})
}

// P3.1: counts and sizes around 255, of lists, maps and arrays, alone.
func TestEncodeAtTheEndsOfSpans(t *testing.T) {
	null, small := api.Value{}, num(api.Ubyte, 7)
	wantForms(t, []form{
		{list(null), "c0 02 01 40"},
		{list(many(254, null)...), "c0 ff fe 40*254"},
		{list(many(255, null)...), "d0 00 00 01 03 00 00 00 ff 40*255"},
		{list(many(256, null)...), "d0 00 00 01 04 00 00 01 00 40*256"},
		{list(text(api.Binary, strings.Repeat("a", 252))), "c0 ff 01 a0 fc 61*252"},
		{list(text(api.Binary, strings.Repeat("a", 253))), "d0 00 00 01 03 00 00 00 01 a0 fd 61*253"},
		{pairs(), "c1 01 00"},
		{pairs(null, text(api.Binary, strings.Repeat("a", 251))), "c1 ff 02 40 a0 fb 61*251"},
		{pairs(null, text(api.Binary, strings.Repeat("a", 252))), "d1 00 00 01 03 00 00 00 02 40 a0 fc 61*252"},
		{array(api.Ubyte), "e0 02 00 50"},
		{array(api.Ubyte, many(253, small)...), "e0 ff fd 50 07*253"},
		{array(api.Ubyte, many(254, small)...), "f0 00 00 01 03 00 00 00 fe 50 07*254"},
		{array(api.Ubyte, many(255, small)...), "f0 00 00 01 04 00 00 00 ff 50 07*255"},
		{array(api.Ubyte, many(256, small)...), "f0 00 00 01 05 00 00 01 00 50 07*256"},
		{array(api.Binary, text(api.Binary, strings.Repeat("a", 252))), "e0 ff 01 a0 fc 61*252"},
		{array(api.Binary, text(api.Binary, strings.Repeat("a", 253))), "f0 00 00 01 03 00 00 00 01 a0 fd 61*253"},
	})
}

// P3.1: the one constructor of an array.
func TestEncodeOfArrays(t *testing.T) {
	null, yes := api.Value{}, num(api.Bool, 1)
	wantForms(t, []form{
		{array(api.Bool), "e0 02 00 56"}, {array(api.Uint), "e0 02 00 52"}, {array(api.Ulong), "e0 02 00 53"}, {array(api.Int), "e0 02 00 54"}, {array(api.Long), "e0 02 00 55"},
		{array(api.Byte), "e0 02 00 51"}, {array(api.Short), "e0 02 00 61"}, {array(api.Ushort), "e0 02 00 60"}, {array(api.Time), "e0 02 00 83"}, {array(api.Uuid), "e0 02 00 98"}, {array(api.Dec128), "e0 02 00 94"},
		{array(api.Float), "e0 02 00 72"}, {array(api.Double), "e0 02 00 82"}, {array(api.Dec32), "e0 02 00 74"}, {array(api.Dec64), "e0 02 00 84"}, {array(api.Char), "e0 02 00 73"},
		{array(api.Binary), "e0 02 00 a0"}, {array(api.String), "e0 02 00 a1"}, {array(api.Symbol), "e0 02 00 a3"}, {array(api.List), "e0 02 00 c0"}, {array(api.Map), "e0 02 00 c1"}, {array(api.Array), "e0 02 00 e0"},
		{array(api.Ulong, num(api.Ulong, 0), num(api.Ulong, 255)), "e0 04 02 53 00 ff"},
		{array(api.Ulong, num(api.Ulong, 256), num(api.Ulong, 0)), "e0 12 02 80 00*6 01 00 00*8"},
		{array(api.Int, signed(api.Int, -128), signed(api.Int, 127)), "e0 04 02 54 80 7f"},
		{array(api.Int, signed(api.Int, -1), signed(api.Int, 128)), "e0 0a 02 71 ff*4 00 00 00 80"},
		{array(api.Long, signed(api.Long, -128), signed(api.Long, 127)), "e0 04 02 55 80 7f"},
		{array(api.Long, signed(api.Long, -129)), "e0 0a 01 81 ff*7 7f"},
		{array(api.Symbol, text(api.Symbol, "a"), text(api.Symbol, "")), "e0 05 02 a3 01 61 00"},
		{array(api.Symbol, text(api.Symbol, "a"), text(api.Symbol, strings.Repeat("b", 255))), "f0 00 00 01 07 00 00 00 02 a3 01 61 ff 62*255"},
		{array(api.Symbol, text(api.Symbol, "a"), text(api.Symbol, strings.Repeat("b", 256))), "f0 00 00 01 0e 00 00 00 02 b3 00 00 00 01 61 00 00 01 00 62*256"},
		{array(api.List, list(), list(many(254, null)...)), "f0 00 00 01 07 00 00 00 02 c0 01 00 ff fe 40*254"},
		{array(api.List, list(), list(many(255, null)...)), "f0 00 00 01 14 00 00 00 02 d0 00 00 00 04 00*4 00 00 01 03 00 00 00 ff 40*255"},
		{array(api.Map, pairs(), pairs(yes, null)), "e0 08 02 c1 01 00 03 02 41 40"},
		{array(api.Map, pairs(), pairs(null, text(api.Binary, strings.Repeat("a", 252)))), "f0 00 00 01 14 00 00 00 02 d1 00 00 00 04 00*4 00 00 01 03 00 00 00 02 40 a0 fc 61*252"},
		{array(api.Array, array(api.Ubyte, many(253, num(api.Ubyte, 7))...), array(api.Bool, yes)), "f0 00 00 01 09 00 00 00 02 e0 ff fd 50 07*253 03 01 56 01"},
		{array(api.Array, array(api.Ubyte, many(254, num(api.Ubyte, 7))...), array(api.Bool, yes)), "f0 00 00 01 16 00 00 00 02 f0 00 00 01 03 00 00 00 fe 50 07*254 00 00 00 06 00 00 00 01 56 01"},
		{array(api.Array, array(api.Uint, num(api.Uint, 256)), array(api.Uint, num(api.Uint, 0))), "e0 0d 02 e0 06 01 70 00 00 01 00 03 01 52 00"},
	})
}

// P3.1, P3.2: the errors of value.Check, and these ahead of ErrLong.
func TestEncodeOfWhatMayNotBe(t *testing.T) {
	long := text(api.Binary, strings.Repeat("a", api.MaxValue))
	for _, c := range []struct {
		v    api.Value
		want api.Errno
	}{
		{api.Value{Kind: -1}, api.ErrKind}, {api.Value{Kind: 25}, api.ErrKind}, {api.Value{Kind: 1 << 40}, api.ErrKind},
		{num(api.Bool, 2), api.ErrNum}, {num(api.Uint, 1<<32), api.ErrNum}, {num(api.Char, 0xd800), api.ErrNum}, {num(api.Int, 1<<31), api.ErrNum},
		{text(api.String, "\xff"), api.ErrText}, {text(api.Symbol, "\u00e9"), api.ErrText}, {text(api.Uuid, "short"), api.ErrText},
		{pairs(api.Value{}), api.ErrMap}, {pairs(many(4, api.Value{})...), api.ErrMap}, {pairs(keyed(1025)...), api.ErrMap},
		{array(api.Null), api.ErrArray}, {array(api.Described), api.ErrArray}, {array(99), api.ErrArray}, {array(api.Uint, num(api.Int, 1)), api.ErrArray},
		{num(api.Null, 1), api.ErrExtra}, {api.Value{Kind: api.List, Elem: 1}, api.ErrExtra},
		{within(32, list()), api.ErrDeep}, {within(1<<16-1, list()), api.ErrDeep},
		{described(), api.ErrParts}, {described(list()), api.ErrParts},
		{list(long, num(api.Bool, 2)), api.ErrNum}, {list(num(api.Bool, 2), long), api.ErrNum}, {array(api.Binary, long, list()), api.ErrArray},
	} {
		if e := value.Check(c.v); e != c.want {
			t.Errorf("Check: %d, want %d", e, c.want)
		}
		b, e := codec.Encode(c.v)
		n, f := codec.Length(c.v)
		if b != nil || e != c.want || n != 0 || f != c.want {
			t.Errorf("Encode: %d bytes, %d; Length: %d, %d; want %d", len(b), e, n, f, c.want)
		}
	}
}

// P3.1, P3.2: just MaxValue bytes, and one more; of many pairs.
func TestEncodeOfTheLongest(t *testing.T) {
	wantEncode(t, text(api.Binary, strings.Repeat("a", api.MaxValue-5)), hex("b0 00 0f ff fb 61*1048571"), api.OK)
	wantEncode(t, text(api.Binary, strings.Repeat("a", api.MaxValue-4)), nil, api.ErrLong)
	wantEncode(t, list(many(api.MaxValue-9, api.Value{})...), hex("d0 00 0f ff fb 00 0f ff f7 40*1048567"), api.OK)
	wantEncode(t, list(many(api.MaxValue-8, api.Value{})...), nil, api.ErrLong)
	wantEncode(t, array(api.Ubyte, many(api.MaxValue-10, num(api.Ubyte, 7))...), hex("f0 00 0f ff fb 00 0f ff f6 50 07*1048566"), api.OK)
	wantEncode(t, array(api.Ubyte, many(api.MaxValue-9, num(api.Ubyte, 7))...), nil, api.ErrLong)
	wantEncode(t, described(api.Value{}, text(api.Symbol, strings.Repeat("a", api.MaxValue-7))), hex("00 40 b3 00 0f ff f9 61*1048569"), api.OK)
	wantEncode(t, described(api.Value{}, text(api.Symbol, strings.Repeat("a", api.MaxValue-6))), nil, api.ErrLong)
	full := pairs(keyed(1024)...)
	wantEncode(t, full, shortestForm(full), api.OK)
}

// P3.1: 32 values in one another.
func TestEncodeOfTheDeepest(t *testing.T) {
	for _, wrap := range []func(api.Value) api.Value{
		func(v api.Value) api.Value { return list(v) },
		func(v api.Value) api.Value { return pairs(v, v) },
		func(v api.Value) api.Value { return described(api.Value{}, v) },
		func(v api.Value) api.Value { return array(v.Kind, v) },
	} {
		v := array(api.Long)
		for depth := 2; depth <= 32; depth++ {
			if next := wrap(v); len(next.List) == 1 || depth < 12 {
				v = next
			} else {
				v = list(v)
			}
			wantEncode(t, v, shortestForm(v), api.OK)
			wantDecode(t, shortestForm(v), 0, v, len(shortestForm(v)), api.OK)
		}
		wantEncode(t, list(v), nil, api.ErrDeep)
	}
}

// P3.1, P3.2: any values, held against all their forms.
func TestEncodeIsTheShortestForm(t *testing.T) {
	r, simple := rand.New(rand.NewSource(31)), edges()
	for range 4000 {
		v := mayBe(r.Intn, simple, r.Intn(5))
		if value.Check(v) != api.OK {
			t.Fatalf("no value that may be: %s", written(v))
		}
		wantEncode(t, v, shortestForm(v), api.OK)
	}
}

// DOC.md's R3: no list and an empty one are the same.
func TestEncodeOfEmptyLists(t *testing.T) {
	for _, v := range []api.Value{list(), pairs(), array(api.Map), num(api.Uint, 5), {}} {
		empty := v
		empty.List = []api.Value{}
		want, _ := codec.Encode(v)
		wantEncode(t, empty, want, api.OK)
	}
}

// P3.8: the same bytes just if the same values.
func TestSameBytesOfSameValues(t *testing.T) {
	r := rand.New(rand.NewSource(32))
	var all []api.Value
	for range 600 {
		all = append(all, mayBe(r.Intn, edges()[:60], r.Intn(3)))
	}
	all = append(all, edges()...)
	for kind := api.Bool; kind <= api.Array; kind++ {
		all = append(all, array(kind))
	}
	forms := make([]string, len(all))
	for i, v := range all {
		b, e := codec.Encode(v)
		if e != api.OK {
			t.Fatalf("Encode(%s): %d", written(v), e)
		}
		forms[i] = string(b)
	}
	for i, a := range all {
		for j, b := range all {
			if (forms[i] == forms[j]) != value.Equal(a, b) {
				t.Errorf("% x of %s, % x of %s", forms[i], written(a), forms[j], written(b))
			}
		}
	}
}
