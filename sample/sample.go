// Package sample makes values for the tests of all layers, and looks at them; the program itself does not call it.
package sample

import (
	"slices"
	"strconv"
	"strings"

	"longshore/api"
)

// Num is a value that has a number.
func Num(kind int, n uint64) api.Value { return api.Value{Kind: kind, Num: n} }

// Signed is a value whose number has a sign.
func Signed(kind int, n int64) api.Value { return api.Value{Kind: kind, Num: uint64(n)} }

// Text is a value that has a text.
func Text(kind int, s string) api.Value { return api.Value{Kind: kind, Text: s} }

// List, Pairs and Described have the parts that they are given: these very lists, not copies.
func List(l ...api.Value) api.Value { return api.Value{Kind: api.List, List: l} }

func Pairs(l ...api.Value) api.Value { return api.Value{Kind: api.Map, List: l} }

func Described(l ...api.Value) api.Value { return api.Value{Kind: api.Described, List: l} }

// Array has elements of a kind, or such as it may not have.
func Array(elem int, l ...api.Value) api.Value {
	return api.Value{Kind: api.Array, Elem: elem, List: l}
}

// Many is one value n times.
func Many(n int, v api.Value) []api.Value { return slices.Repeat([]api.Value{v}, n) }

// Within lays v into so many lists, one in the other.
func Within(lists int, v api.Value) api.Value {
	for range lists {
		v = List(v)
	}
	return v
}

// Same tells whether two values are alike in all fields; it doesn't ask the program.
func Same(a, b api.Value) bool {
	return a.Kind == b.Kind && a.Num == b.Num && a.Text == b.Text && a.Elem == b.Elem && slices.EqualFunc(a.List, b.List, Same)
}

// Written is a value as text, in which two values are alike just where they are the same.
func Written(v api.Value) string {
	return told(v, func(l []api.Value) []api.Value { return l })
}

// WithRoom is a value as text, with what stands in the room behind its lists.
func WithRoom(v api.Value) string {
	return told(v, func(l []api.Value) []api.Value { return l[:cap(l)] })
}

func told(v api.Value, seen func([]api.Value) []api.Value) string {
	var b strings.Builder
	tell(&b, v, seen)
	return b.String()
}

func tell(b *strings.Builder, v api.Value, seen func([]api.Value) []api.Value) {
	b.WriteString("{" + strconv.Itoa(v.Kind) + " " + strconv.FormatUint(v.Num, 10) + " " + strconv.Quote(v.Text) + " " + strconv.Itoa(v.Elem) + " " + strconv.Itoa(len(v.List)) + " [")
	for _, part := range seen(v.List) {
		tell(b, part, seen)
	}
	b.WriteString("]}")
}

// Roomy is v, each of its lists (an empty one too) with room to spare in which a mark stands.
func Roomy(v api.Value) api.Value {
	mark := Text(api.String, "mark")
	l := make([]api.Value, 0, len(v.List)+2)
	for _, part := range v.List {
		l = append(l, Roomy(part))
	}
	v.List = append(l, mark, mark)[:len(l)]
	return v
}

// Scribble overwrites all lists of v, and the room behind them.
func Scribble(v api.Value) {
	l := v.List[:cap(v.List)]
	for i := range l {
		Scribble(l[i])
		l[i] = Text(api.Symbol, "scribbled")
	}
}

// Apart tells whether the parts of what read answers share no list with one another: each stays when all others are scribbled over.
func Apart(read func() api.Value) bool {
	for i := range read().List {
		l := read().List
		before := Written(l[i])
		for j := range l {
			if j != i {
				Scribble(l[j])
			}
		}
		if Written(l[i]) != before {
			return false
		}
	}
	return true
}
