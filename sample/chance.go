package sample

import (
	"strings"

	"longshore/api"
	"longshore/value"
)

// Edges are values without parts at which a form or a kind ends, of each kind that has no parts.
func Edges() []api.Value {
	var l []api.Value
	for _, n := range []int64{0, 1, -1, 2, 127, 128, 129, -127, -128, -129, 254, 255, 256, 257, 32767, -32768, 65535, 65536, 1<<31 - 1, -1 << 31, 1<<32 - 1, 1 << 32, 1<<63 - 1, -1 << 63, 0xd7ff, 0xe000, 0x10ffff} {
		for kind := api.Bool; kind <= api.Time; kind++ {
			if v := Signed(kind, n); value.Check(v) == api.OK {
				l = append(l, v)
			}
		}
	}
	for _, n := range []int{0, 1, 254, 255, 256, 257} {
		for kind := api.Binary; kind <= api.Symbol; kind++ {
			l = append(l, Text(kind, strings.Repeat("a", n)))
		}
	}
	fixed := "\x00\x01\x7f\x80\xff56789abcdef"
	return append(l, api.Value{}, Text(api.Dec128, fixed), Text(api.Uuid, fixed), Text(api.Binary, "\xff\x00"), Text(api.String, "\u20ac\U0010ffff"))
}

// Keyed is n pairs: numbers of two bytes, and Null behind each.
func Keyed(n int) []api.Value {
	var l []api.Value
	for i := range n {
		l = append(l, Num(api.Ushort, uint64(i)), api.Value{})
	}
	return l
}

// MayBe is a value that may be, made of simple ones in at most so many levels; pick(n) is a number from 0 to n - 1.
func MayBe(pick func(n int) int, simple []api.Value, levels int) api.Value {
	if levels == 0 || pick(3) == 0 {
		return simple[pick(len(simple))]
	}
	inner := func() api.Value { return MayBe(pick, simple, levels-1) }
	switch pick(4) {
	case 0:
		return List(some(pick, levels, inner)...)
	case 1:
		var l []api.Value
		for i, key := range some(pick, levels, inner) {
			l = append(l, List(Num(api.Uint, uint64(i)), key), inner())
		}
		return Pairs(l...)
	case 2:
		return Described(inner(), inner())
	}
	return arrayOf(pick, inner)
}

// arrayOf is an array of those of 40 values that are of the first one's kind.
func arrayOf(pick func(n int) int, inner func() api.Value) api.Value {
	one := inner()
	if one.Kind == api.Null || one.Kind == api.Described {
		return Array(api.Uint)
	}
	l := []api.Value{one}
	for range pick(40) {
		if v := inner(); v.Kind == one.Kind {
			l = append(l, v)
		}
	}
	return Array(one.Kind, l[pick(2):]...)
}

// some is some values; where they have no parts, now and then so many that a count takes more than a byte.
func some(pick func(n int) int, levels int, one func() api.Value) []api.Value {
	var l []api.Value
	n := pick(5)
	if levels == 1 && pick(20) == 0 {
		n = 200 + pick(100)
	}
	for range n {
		l = append(l, one())
	}
	return l
}
