package codec_test

import (
	"fmt"
	"strconv"
	"strings"
	"testing"

	"longshore/api"
	"longshore/codec"
	"longshore/sample"
)

var (
	num, signed, text       = sample.Num, sample.Signed, sample.Text
	list, pairs, array      = sample.List, sample.Pairs, sample.Array
	described, many, within = sample.Described, sample.Many, sample.Within
	written, same           = sample.Written, sample.Same
	roomy, scribble         = sample.Roomy, sample.Scribble
	edges, keyed, mayBe     = sample.Edges, sample.Keyed, sample.MayBe
)

// hex is bytes out of digits, with blanks between; "*n" behind a byte lays it n times.
func hex(s string) []byte {
	var b []byte
	for _, word := range strings.Fields(s) {
		digits, times, is := strings.Cut(word, "*")
		n, err := strconv.ParseUint(digits, 16, 8)
		if err != nil {
			panic(err)
		}
		count := 1
		if is {
			if count, err = strconv.Atoi(times); err != nil {
				panic(err)
			}
		}
		for range count {
			b = append(b, byte(n))
		}
	}
	return b
}

func brief(b []byte) string {
	if len(b) > 60 {
		return fmt.Sprintf("% x .. (%d bytes)", b[:60], len(b))
	}
	return fmt.Sprintf("% x", b)
}

func wantEncode(t *testing.T, v api.Value, want []byte, wantErr api.Errno) {
	t.Helper()
	b, e := codec.Encode(v)
	n, f := codec.Length(v)
	if string(b) != string(want) || e != wantErr {
		t.Errorf("Encode(%.200s): %s, %d, want %s, %d", written(v), brief(b), e, brief(want), wantErr)
	}
	if n != len(want) || f != wantErr {
		t.Errorf("Length(%.200s): %d, %d, want %d, %d", written(v), n, f, len(want), wantErr)
	}
}

func wantDecode(t *testing.T, b []byte, at int, want api.Value, wantPlace int, wantErr api.Errno) {
	t.Helper()
	v, place, e := codec.Decode(b, at)
	if !same(v, want) || place != wantPlace || e != wantErr {
		t.Errorf("Decode(%s, %d): %.200s, %d, %d, want %.200s, %d, %d", brief(b), at, written(v), place, e, written(want), wantPlace, wantErr)
	}
}

// wantFault reads b, alone and behind other bytes, and wants a fault.
func wantFault(t *testing.T, b []byte, wantPlace int, wantErr api.Errno) {
	t.Helper()
	wantDecode(t, b, 0, api.Value{}, wantPlace, wantErr)
	ahead := hex("c0 ff ff")
	wantDecode(t, append(ahead, b...), len(ahead), api.Value{}, len(ahead)+wantPlace, wantErr)
	if v, place, e := codec.Whole(b); !same(v, api.Value{}) || place != wantPlace || e != wantErr {
		t.Errorf("Whole(%s): %.200s, %d, %d, want nothing, %d, %d", brief(b), written(v), place, e, wantPlace, wantErr)
	}
	if codec.Shortest(b) {
		t.Errorf("Shortest(%s): true of bytes with a fault", brief(b))
	}
}

// form is a value, and its shortest form.
type form struct {
	v api.Value
	b string
}

func wantForms(t *testing.T, forms []form) {
	t.Helper()
	for _, f := range forms {
		b := hex(f.b)
		wantEncode(t, f.v, b, api.OK)
		wantDecode(t, b, 0, f.v, len(b), api.OK)
	}
}

// faulty is bytes, the place of the fault that is met in them, and it.
type faulty struct {
	b     string
	place int
	e     api.Errno
}

func wantFaults(t *testing.T, all []faulty) {
	t.Helper()
	for _, f := range all {
		wantFault(t, hex(f.b), f.place, f.e)
	}
}
