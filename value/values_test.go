package value_test

import (
	"math/rand"
	"testing"

	"longshore/api"
	"longshore/sample"
	"longshore/value"
)

var (
	num, text                = sample.Num, sample.Text
	list, pairs, array       = sample.List, sample.Pairs, sample.Array
	described, within        = sample.Described, sample.Within
	written, roomy, scribble = sample.Written, sample.Roomy, sample.Scribble
	writtenWithRoom          = sample.WithRoom
)

// ofEachKind has a value that may be of each kind, with its fields not zero where it has them.
func ofEachKind() []api.Value {
	fixed := "0123456789abcdef"
	return []api.Value{
		{}, num(api.Bool, 1), num(api.Ubyte, 200), num(api.Ushort, 60000), num(api.Uint, 1<<31), num(api.Ulong, 1<<63),
		num(api.Byte, 100), num(api.Short, 30000), num(api.Int, 1<<30), num(api.Long, 1<<62),
		num(api.Float, 1<<31), num(api.Double, 1<<63), num(api.Dec32, 5), num(api.Dec64, 6), text(api.Dec128, fixed),
		num(api.Char, 0x20ac), num(api.Time, 1<<40), text(api.Uuid, fixed), text(api.Binary, "a\xff"), text(api.String, "\u20ac"), text(api.Symbol, "abc"),
		list(num(api.Uint, 1)), pairs(num(api.Uint, 1), num(api.Uint, 2)), array(api.Uint, num(api.Uint, 1)), described(num(api.Ulong, 16), list()),
	}
}

// anyValue is a value of few different fields, so that two of them are often the same in some: it seldom may be.
func anyValue(r *rand.Rand, depth int) api.Value {
	v := api.Value{
		Kind: r.Intn(30) - 2,
		Num:  []uint64{0, 0, 0, 1, 2, 127, 128, 1 << 31, 1 << 32, 1 << 63, 1<<64 - 1, 1<<64 - 128}[r.Intn(12)],
		Text: []string{"", "", "", "a", "ab", "b", "\xff", "\xc3\xa9", "0123456789abcdef"}[r.Intn(9)],
		Elem: []int{0, 0, 0, 1, 4, 24, 25, -1}[r.Intn(8)],
	}
	if depth > 0 && r.Intn(2) == 0 {
		v.List = manyValues(r, r.Intn(4), func() api.Value { return anyValue(r, depth-1) })
	}
	return v
}

// likely is a value that may be, most often: a fault is thrown in here and there.
func likely(r *rand.Rand, depth int) api.Value {
	if r.Intn(40) == 0 {
		return anyValue(r, 1)
	}
	simple := ofEachKind()
	if depth == 0 || r.Intn(3) == 0 {
		v := simple[r.Intn(api.List)]
		if r.Intn(6) == 0 {
			v.Num ^= 1 << r.Intn(64)
		}
		return v
	}
	inner := func() api.Value { return likely(r, depth-1) }
	switch kind := api.List + r.Intn(4); kind {
	case api.Map:
		return pairs(manyValues(r, 2*r.Intn(3)+r.Intn(12)/11, inner)...)
	case api.Array:
		elem := r.Intn(api.List)
		return array(elem, manyValues(r, r.Intn(3), func() api.Value { return simple[(elem+r.Intn(12)/11)%len(simple)] })...)
	case api.Described:
		return described(manyValues(r, 2+r.Intn(12)/11, inner)...)
	}
	return list(manyValues(r, r.Intn(4), inner)...)
}

func manyValues(r *rand.Rand, n int, one func() api.Value) []api.Value {
	// Now nil, now empty, now with room to spare.
	l := make([]api.Value, 0, n+r.Intn(3))
	for range n {
		l = append(l, one())
	}
	if n == 0 && r.Intn(2) == 0 {
		return nil
	}
	return l
}

func wantSame(t *testing.T, what string, got, want api.Value) {
	t.Helper()
	if written(got) != written(want) {
		t.Errorf("%s: %s, want %s", what, written(got), written(want))
	}
}

func wantCheck(t *testing.T, v api.Value, want api.Errno) {
	t.Helper()
	if got := value.Check(v); got != want {
		t.Errorf("Check(%.200s): %d, want %d", written(v), got, want)
	}
}
