package codec_test

import (
	"fmt"
	"math/rand"
	"strconv"
	"strings"
	"testing"

	"longshore/api"
	"longshore/codec"
	"longshore/sample"
	"longshore/value"
)

var (
	num, signed, text       = sample.Num, sample.Signed, sample.Text
	list, pairs, array      = sample.List, sample.Pairs, sample.Array
	described, many, within = sample.Described, sample.Many, sample.Within
	written, same           = sample.Written, sample.Same
	roomy, scribble         = sample.Roomy, sample.Scribble
)

// keyed is n pairs: numbers of two bytes, and Null behind each.
func keyed(n int) []api.Value {
	var l []api.Value
	for i := range n {
		l = append(l, num(api.Ushort, uint64(i)), api.Value{})
	}
	return l
}

// hex is bytes out of digits, with blanks between; "*n" behind a byte lays it n times.
func hex(s string) []byte {
	var b []byte
	for _, word := range strings.Fields(s) {
		digits, times, is := strings.Cut(word, "*")
		n, err := strconv.ParseUint(digits, 16, 8)
		if err != nil {
			panic(err)
		}
		count := 1
		if is {
			if count, err = strconv.Atoi(times); err != nil {
				panic(err)
			}
		}
		for range count {
			b = append(b, byte(n))
		}
	}
	return b
}

func brief(b []byte) string {
	if len(b) > 60 {
		return fmt.Sprintf("% x .. (%d bytes)", b[:60], len(b))
	}
	return fmt.Sprintf("% x", b)
}

// edges are the numbers, by kinds, at which a form or a kind ends.
func edges() []api.Value {
	var l []api.Value
	for _, n := range []int64{0, 1, -1, 2, 127, 128, 129, -127, -128, -129, 254, 255, 256, 257, 32767, -32768, 65535, 65536, 1<<31 - 1, -1 << 31, 1<<32 - 1, 1 << 32, 1<<63 - 1, -1 << 63, 0xd7ff, 0xe000, 0x10ffff} {
		for kind := api.Bool; kind <= api.Time; kind++ {
			if v := signed(kind, n); value.Check(v) == api.OK {
				l = append(l, v)
			}
		}
	}
	for _, n := range []int{0, 1, 254, 255, 256, 257} {
		for kind := api.Binary; kind <= api.Symbol; kind++ {
			l = append(l, text(kind, strings.Repeat("a", n)))
		}
	}
	fixed := "\x00\x01\x7f\x80\xff56789abcdef"
	return append(l, api.Value{}, text(api.Dec128, fixed), text(api.Uuid, fixed), text(api.Binary, "\xff\x00"), text(api.String, "\u20ac\U0010ffff"))
}

// mayBe is any value that may be, of few levels.
func mayBe(r *rand.Rand, simple []api.Value, depth int) api.Value {
	if depth == 0 || r.Intn(3) == 0 {
		return simple[r.Intn(len(simple))]
	}
	inner := func() api.Value { return mayBe(r, simple, depth-1) }
	switch r.Intn(4) {
	case 0:
		return list(lots(r, depth, inner)...)
	case 1:
		var l []api.Value
		for i, key := range lots(r, depth, inner) {
			l = append(l, list(num(api.Uint, uint64(i)), key), inner())
		}
		return pairs(l...)
	case 2:
		return described(inner(), inner())
	}
	return arrayOf(r, simple, depth)
}

func arrayOf(r *rand.Rand, simple []api.Value, depth int) api.Value {
	one := mayBe(r, simple, depth-1)
	if one.Kind == api.Null || one.Kind == api.Described {
		return array(api.Uint)
	}
	l := []api.Value{one}
	for range r.Intn(40) {
		if v := mayBe(r, simple, depth-1); v.Kind == one.Kind {
			l = append(l, v)
		}
	}
	return array(one.Kind, l[r.Intn(2):]...)
}

// lots is some values; where they are simple ones, now and then so many that a count takes more than a byte.
func lots(r *rand.Rand, depth int, one func() api.Value) []api.Value {
	var l []api.Value
	n := r.Intn(5)
	if depth == 1 && r.Intn(20) == 0 {
		n = 200 + r.Intn(100)
	}
	for range n {
		l = append(l, one())
	}
	return l
}

func wantEncode(t *testing.T, v api.Value, want []byte, wantErr api.Errno) {
	t.Helper()
	b, e := codec.Encode(v)
	n, f := codec.Length(v)
	if string(b) != string(want) || e != wantErr {
		t.Errorf("Encode(%.200s): %s, %d, want %s, %d", written(v), brief(b), e, brief(want), wantErr)
	}
	if n != len(want) || f != wantErr {
		t.Errorf("Length(%.200s): %d, %d, want %d, %d", written(v), n, f, len(want), wantErr)
	}
}

func wantDecode(t *testing.T, b []byte, at int, want api.Value, wantPlace int, wantErr api.Errno) {
	t.Helper()
	v, place, e := codec.Decode(b, at)
	if !same(v, want) || place != wantPlace || e != wantErr {
		t.Errorf("Decode(%s, %d): %.200s, %d, %d, want %.200s, %d, %d", brief(b), at, written(v), place, e, written(want), wantPlace, wantErr)
	}
}

// wantFault reads b, alone and behind other bytes, and wants a fault.
func wantFault(t *testing.T, b []byte, wantPlace int, wantErr api.Errno) {
	t.Helper()
	wantDecode(t, b, 0, api.Value{}, wantPlace, wantErr)
	ahead := hex("c0 ff ff")
	wantDecode(t, append(ahead, b...), len(ahead), api.Value{}, len(ahead)+wantPlace, wantErr)
	if v, place, e := codec.Whole(b); !same(v, api.Value{}) || place != wantPlace || e != wantErr {
		t.Errorf("Whole(%s): %.200s, %d, %d, want nothing, %d, %d", brief(b), written(v), place, e, wantPlace, wantErr)
	}
	if codec.Shortest(b) {
		t.Errorf("Shortest(%s): true of bytes with a fault", brief(b))
	}
}

// form is a value, and its shortest form.
type form struct {
	v api.Value
	b string
}

func wantForms(t *testing.T, forms []form) {
	t.Helper()
	for _, f := range forms {
		b := hex(f.b)
		wantEncode(t, f.v, b, api.OK)
		wantDecode(t, b, 0, f.v, len(b), api.OK)
	}
}

// faulty is bytes, the place of the fault that is met in them, and it.
type faulty struct {
	b     string
	place int
	e     api.Errno
}

func wantFaults(t *testing.T, all []faulty) {
	t.Helper()
	for _, f := range all {
		wantFault(t, hex(f.b), f.place, f.e)
	}
}
