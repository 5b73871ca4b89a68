package value_test

import (
	"iter"
	"math/rand"
	"testing"

	"longshore/api"
	"longshore/value"
)

func wantFind(t *testing.T, m, key, want api.Value, there bool) {
	t.Helper()
	got, is := value.Find(m, key)
	if is != there || written(got) != written(want) {
		t.Errorf("Find(%.300s, %s): %s, %t, want %s, %t", written(m), written(key), written(got), is, written(want), there)
	}
}

// P2.5
func TestFind(t *testing.T) {
	k, l, v, w := text(api.Symbol, "k"), text(api.Symbol, "l"), num(api.Uint, 1), list(num(api.Uint, 2))
	zero := api.Value{}
	for _, c := range []struct {
		m, key, want api.Value
		there        bool
	}{
		{pairs(k, v, l, w), k, v, true}, {pairs(k, v, l, w), l, w, true}, {pairs(k, v, l, w), v, zero, false}, {pairs(k, v, l, w), w, zero, false},
		{pairs(k, v, k, w), k, v, true}, {pairs(l, zero, k, v, k, w), k, v, true}, {pairs(k, zero), k, zero, true},
		{pairs(), k, zero, false}, {pairs(k), k, zero, false}, {pairs(k, v, l), l, zero, false}, {pairs(k, v, l), k, v, true}, {pairs(v, k, l), k, zero, false},
		{pairs(k, v), text(api.String, "k"), zero, false}, {pairs(k, v), text(api.Symbol, "ka"), zero, false}, {pairs(k, v), zero, zero, false},
		{pairs(list(k), v), list(k), v, true}, {pairs(list(k), v), list(k, k), zero, false}, {pairs(list(), v), api.Value{Kind: api.List, List: []api.Value{}}, v, true},
		{pairs(num(api.Float, 0), v), num(api.Float, 1<<31), zero, false}, {pairs(num(-7, 3), num(99, 1)), num(-7, 3), num(99, 1), true},
		{api.Value{Kind: api.Map, Num: 5, Elem: 8, Text: "x", List: []api.Value{k, v}}, k, v, true},
		{list(k, v), k, zero, false}, {described(k, v), k, zero, false}, {array(api.Symbol, k, k), k, zero, false}, {api.Value{Kind: -1, List: []api.Value{k, v}}, k, zero, false}, {api.Value{Kind: api.Map + 256, List: []api.Value{k, v}}, k, zero, false}, {zero, zero, zero, false},
		{manyPairs(1024), num(api.Uint, 1023), num(api.Uint, 5), true}, {manyPairs(3000), num(api.Uint, 2999), num(api.Uint, 5), true}, {manyPairs(1024), num(api.Uint, 1025), zero, false},
	} {
		wantFind(t, c.m, c.key, c.want, c.there)
	}
}

type told struct {
	depth int
	v     api.Value
}

// through is P2.6's order, said in another way: a stack of what is still to be told.
func through(v api.Value) []told {
	var all []told
	left := []told{{1, v}}
	for len(left) > 0 {
		next := left[len(left)-1]
		left = left[:len(left)-1]
		all = append(all, next)
		for i := len(next.v.List) - 1; i >= 0; i-- {
			left = append(left, told{next.depth + 1, next.v.List[i]})
		}
	}
	return all
}

func wantTold(t *testing.T, all iter.Seq2[int, api.Value], want []told) {
	t.Helper()
	n := 0
	for depth, v := range all {
		if n < len(want) && (depth != want[n].depth || written(v) != written(want[n].v)) {
			t.Errorf("told in place %d: %d %s, want %d %s", n, depth, written(v), want[n].depth, written(want[n].v))
		}
		n++
	}
	if n != len(want) {
		t.Errorf("told %d values, want %d", n, len(want))
	}
}

// P2.6: such as may be, and such as may not.
func TestAllOfManyValues(t *testing.T) {
	r := rand.New(rand.NewSource(26))
	for range 3000 {
		v := anyValue(r, 4)
		wantTold(t, value.All(v), through(v))
	}
	for _, v := range append(ofEachKind(), num(-1, 2), within(100, num(25, 7)), pairs(num(1, 2)), described()) {
		wantTold(t, value.All(v), through(v))
	}
}

// P2.6, R7: left behind each of its values; and behind that from the beginning again.
func TestAllLeftEarly(t *testing.T) {
	v := list(num(api.Uint, 1), list(list(num(api.Uint, 2)), num(api.Uint, 3)), pairs(num(api.Uint, 4), list()))
	want := through(v)
	all := value.All(v)
	for leave := 1; leave <= len(want); leave++ {
		n := 0
		for depth, x := range all {
			if depth != want[n].depth || written(x) != written(want[n].v) {
				t.Errorf("told in place %d: %d %s", n, depth, written(x))
			}
			if n++; n == leave {
				break
			}
		}
		if n != leave {
			t.Errorf("left behind %d values, want %d", n, leave)
		}
	}
	wantTold(t, all, want)
}

// P2.6, R7
func TestAllWithinItself(t *testing.T) {
	v := list(num(api.Uint, 1), list(num(api.Uint, 2)), num(api.Uint, 3))
	want := through(v)
	all := value.All(v)
	n := 0
	for depth, x := range all {
		if depth != want[n].depth || written(x) != written(want[n].v) {
			t.Errorf("told in place %d: %d %s", n, depth, written(x))
		}
		wantTold(t, all, want)
		for range all {
			break
		}
		n++
	}
	if n != len(want) {
		t.Errorf("told %d values, want %d", n, len(want))
	}
}

// P2.6, R7: two that are gone over by turns.
func TestAllByTurns(t *testing.T) {
	v := list(num(api.Uint, 1), list(num(api.Uint, 2)), num(api.Uint, 3))
	all := value.All(v)
	first, stopFirst := iter.Pull2(all)
	second, stopSecond := iter.Pull2(all)
	defer stopFirst()
	defer stopSecond()
	for _, want := range through(v) {
		for _, next := range []func() (int, api.Value, bool){first, second} {
			depth, x, is := next()
			if !is || depth != want.depth || written(x) != written(want.v) {
				t.Errorf("told %d %s, want %d %s", depth, written(x), want.depth, written(want.v))
			}
		}
	}
}

// P2.6: changes behind the call, ahead of the range and while it runs.
func TestAllBehindChanges(t *testing.T) {
	v := roomy(list(num(api.Uint, 1), list(num(api.Uint, 2), num(api.Uint, 3)), list()))
	var want []told
	for _, one := range through(v) {
		_, whole := firstOf(value.All(one.v))
		want = append(want, told{one.depth, whole})
	}
	all := value.All(v)
	v.List[1].List[0] = list(list())
	v.List[0] = num(-1, 9)
	wantTold(t, all, want)
	for range all {
		scribble(v)
	}
	wantTold(t, all, want)
}

func firstOf(all iter.Seq2[int, api.Value]) (int, api.Value) {
	for depth, v := range all {
		return depth, v
	}
	return 0, api.Value{}
}

// P2.6, R2: each value that is told may be scribbled over, its room too, with no effect on what is told later or was told before.
func TestAllTellsNewMemory(t *testing.T) {
	v := roomy(list(num(api.Uint, 1), list(list(num(api.Uint, 2)), num(api.Uint, 3)), pairs(num(api.Uint, 4), list())))
	before := writtenWithRoom(v)
	want := through(v)
	all := value.All(v)
	for range 2 {
		n := 0
		for depth, x := range all {
			if depth != want[n].depth || written(x) != written(want[n].v) {
				t.Errorf("told in place %d: %d %s", n, depth, written(x))
			}
			scribble(x)
			n++
		}
	}
	var kept []told
	for depth, x := range all {
		kept = append(kept, told{depth, x})
	}
	for i := range kept {
		if written(kept[i].v) != written(want[i].v) {
			t.Errorf("kept in place %d: %s, want %s", i, written(kept[i].v), written(want[i].v))
		}
		scribble(kept[i].v)
	}
	if after := writtenWithRoom(v); after != before {
		t.Errorf("the value changed: %s, was %s", after, before)
	}
}

// P2.7
func TestListedAndMapped(t *testing.T) {
	r := rand.New(rand.NewSource(27))
	for n := range 7 {
		var l []api.Value
		for range n {
			l = append(l, anyValue(r, 2))
		}
		wantSame(t, "Listed", value.Listed(l...), api.Value{Kind: api.List, List: l})
		wantSame(t, "Mapped", value.Mapped(l...), api.Value{Kind: api.Map, List: l})
	}
	wantSame(t, "Listed", value.Listed(), api.Value{Kind: api.List})
	wantSame(t, "Listed", value.Listed([]api.Value{}...), api.Value{Kind: api.List})
	wantSame(t, "Mapped", value.Mapped(), api.Value{Kind: api.Map})
	wantSame(t, "Mapped", value.Mapped(num(-1, 1)), pairs(num(-1, 1)))
	if many := value.Mapped(manyPairs(1025).List...); len(many.List) != 2050 {
		t.Errorf("Mapped of 1025 pairs has %d parts", len(many.List))
	}
}

// P2.5, P2.7, R2: what is answered is new memory, in itself too.
func TestAnswersAreNewMemory(t *testing.T) {
	inner := roomy(list(num(api.Uint, 1), list(num(api.Uint, 2))))
	l := roomy(list(inner, list(inner), inner)).List
	m := roomy(pairs(num(api.Uint, 1), inner))
	before := writtenWithRoom(list(l...)) + writtenWithRoom(m)
	for _, make := range []func() api.Value{
		func() api.Value { return value.Listed(l...) },
		func() api.Value { return value.Mapped(l...) },
		func() api.Value { return value.Listed(inner, inner) },
		func() api.Value { v, _ := value.Find(m, num(api.Uint, 1)); return v },
		func() api.Value { return value.Listed(l[:0]...) },
		func() api.Value { v, _ := value.Find(pairs(inner, roomy(list())), inner); return v },
	} {
		first, second := make(), make()
		want := written(second)
		scribble(first)
		if written(second) != want {
			t.Errorf("two answers share memory: %s, was %s", written(second), want)
		}
		wantOwnLists(t, second)
	}
	if after := writtenWithRoom(list(l...)) + writtenWithRoom(m); after != before {
		t.Errorf("an argument changed: %s, was %s", after, before)
	}
}

// wantOwnLists scribbles over one list after the other of a value: no other one may change by it.
func wantOwnLists(t *testing.T, v api.Value) {
	t.Helper()
	for i := range v.List {
		rest := written(list(v.List[:i]...)) + written(list(v.List[i+1:]...))
		scribble(v.List[i])
		if written(list(v.List[:i]...))+written(list(v.List[i+1:]...)) != rest {
			t.Errorf("two lists of one answer share memory")
		}
	}
}

// R2: what is handed in is not changed, the room behind its lists neither.
func TestArgumentsStay(t *testing.T) {
	r := rand.New(rand.NewSource(20))
	for range 2000 {
		v, w := roomy(likely(r, 3)), roomy(likely(r, 3))
		before := writtenWithRoom(v) + writtenWithRoom(w)
		value.Check(v)
		value.Equal(v, w)
		value.Order(v, w)
		value.Depth(v)
		value.Find(v, w)
		value.Listed(v, w)
		value.Mapped(v, w)
		for range value.All(v) {
		}
		if after := writtenWithRoom(v) + writtenWithRoom(w); after != before {
			t.Errorf("the arguments changed: %s, were %s", after, before)
		}
	}
}

// P2.1, R2: the keys of a map stay in their order.
func TestCheckLeavesKeys(t *testing.T) {
	v := num(api.Uint, 1)
	m := roomy(pairs(num(api.Uint, 9), v, num(api.Uint, 3), v, num(api.Uint, 5), v))
	before := writtenWithRoom(m)
	wantCheck(t, m, api.OK)
	if after := writtenWithRoom(m); after != before {
		t.Errorf("the map changed: %s, was %s", after, before)
	}
}

// P2.8
func TestWhatFollows(t *testing.T) {
	r := rand.New(rand.NewSource(8))
	checked, deep := 0, 0
	for range 10000 {
		v := likely(r, 2)
		if r.Intn(5) == 0 {
			v = within(28+r.Intn(5), v)
		}
		e := value.Check(v)
		may := e == api.OK && value.Depth(v) < api.MaxDepth
		if got := value.Check(value.Listed(v)); (got == api.OK) != may {
			t.Errorf("Check(Listed(%s)): %d, but Check %d, Depth %d", written(v), got, e, value.Depth(v))
		}
		if e != api.OK {
			continue
		}
		checked++
		if !may {
			deep++
		}
		for _, x := range value.All(v) {
			wantCheck(t, x, api.OK)
		}
	}
	if checked < 3000 || deep < 100 {
		t.Errorf("too seldom to tell: %d that may be, %d of them as deep as may be", checked, deep)
	}
}

// R1: as many parts nested in one another as DOC.md's bound lets be.
func TestDeepestValues(t *testing.T) {
	const deepest = 1 << 16
	v, w := within(deepest-1, num(api.Uint, 1)), within(deepest-1, num(api.Uint, 2))
	wantDeep := func(what string, is bool) {
		if !is {
			t.Errorf("%s of values nested %d deep", what, deepest)
		}
	}
	wantDeep("Check", value.Check(v) == api.ErrDeep)
	wantDeep("Check of a map's keys", value.Check(pairs(v, v, w, w)) == api.ErrDeep)
	wantDeep("Check of a key twice", value.Check(pairs(v, v, v, w)) == api.ErrMap)
	wantDeep("Equal", value.Equal(v, v) && !value.Equal(v, w))
	wantDeep("Order", value.Order(v, w) == -1 && value.Order(w, v) == 1 && value.Order(v, v) == 0)
	wantDeep("Depth", value.Depth(v) == deepest)
	found, is := value.Find(pairs(v, v, w, w), w)
	wantDeep("Find", is && value.Equal(found, w))
	wantDeep("Listed", value.Equal(value.Listed(v, w), list(v, w)))
	depth, first := firstOf(value.All(v))
	wantDeep("All", depth == 1 && value.Equal(first, v))
}
