package value_test

import (
	"math"
	"math/rand"
	"slices"
	"testing"

	"longshore/api"
	"longshore/value"
)

// rising are values in their order, all different: such as may not be, too.
func rising() []api.Value {
	x, y := num(api.Uint, 1), num(api.Uint, 2)
	return []api.Value{
		num(math.MinInt, 9), num(-1, 0), num(-1, 1),
		{}, {Kind: api.Null, Elem: 1}, num(api.Null, 7),
		num(api.Uint, 0), num(api.Uint, 9), num(api.Uint, 1<<63), num(api.Uint, math.MaxUint64),
		num(api.Int, 0), num(api.Int, 5), num(api.Int, 1<<63-1), num(api.Int, 1<<63), num(api.Int, math.MaxUint64),
		num(api.Float, 0), num(api.Float, 0x7fc00000), num(api.Float, 1<<31),
		text(api.Binary, ""), text(api.Binary, "\x00"), text(api.Binary, "\x00\x00"), text(api.Binary, "\x01"), text(api.Binary, "a"), text(api.Binary, "ab"), text(api.Binary, "abc"), text(api.Binary, "b"), text(api.Binary, "\x80"), text(api.Binary, "\xff"),
		{Kind: api.Binary, Num: 1, Text: ""},
		text(api.String, "a"), text(api.String, "\uffff"), text(api.String, "\U00010000"),
		list(), {Kind: api.List, Elem: 3}, list(x), {Kind: api.List, Elem: 1, List: []api.Value{x}}, list(x, x), list(x, y), list(x, y, x), list(y), list(y, x), list(list()), list(list(), x), list(list(x)),
		{Kind: api.List, Text: "a"}, {Kind: api.List, Num: 1}, {Kind: api.List, Num: 1, List: []api.Value{{}}},
		pairs(), pairs(x), pairs(x, y), pairs(y),
		array(math.MinInt), array(-1), array(2), array(3), array(math.MaxInt), array(3, x), array(4, x), array(2, y), array(1, list()),
		num(25, 0), num(math.MaxInt, 0),
	}
}

func wantOrder(t *testing.T, a, b api.Value, want int) {
	t.Helper()
	if got := value.Order(a, b); got != want {
		t.Errorf("Order(%s, %s): %d, want %d", written(a), written(b), got, want)
	}
	if got := value.Equal(a, b); got != (want == 0) {
		t.Errorf("Equal(%s, %s): %t, want %t", written(a), written(b), got, want == 0)
	}
}

// P2.2, P2.3: each of the rising values against each.
func TestOrderOfRisingValues(t *testing.T) {
	for i, a := range rising() {
		for j, b := range rising() {
			want := 0
			if i < j {
				want = -1
			}
			if i > j {
				want = 1
			}
			wantOrder(t, a, b, want)
			wantOrder(t, within(3, a), within(3, b), want)
			wantOrder(t, list(a, a), list(a, b), want)
		}
	}
}

// P2.2: each field by itself makes two values differ, at any depth.
func TestEqualOfEachField(t *testing.T) {
	v := api.Value{Kind: 3, Num: 4, Text: "five", Elem: 6, List: []api.Value{num(7, 8), num(9, 10)}}
	changes := []func(*api.Value){
		func(v *api.Value) { v.Kind++ }, func(v *api.Value) { v.Num++ }, func(v *api.Value) { v.Text = "fivf" }, func(v *api.Value) { v.Text += "a" },
		func(v *api.Value) { v.Elem++ }, func(v *api.Value) { v.List = v.List[:1] }, func(v *api.Value) { v.List = nil }, func(v *api.Value) { v.List[1].Kind++ },
		func(v *api.Value) { v.List[0].Num++ }, func(v *api.Value) { v.List[0].Elem-- }, func(v *api.Value) { v.List = append(v.List, api.Value{}) },
		func(v *api.Value) { slices.Reverse(v.List) },
	}
	for i, change := range changes {
		w := v
		w.List = slices.Clone(v.List)
		if !value.Equal(v, w) {
			t.Errorf("change %d: not Equal ahead of it", i)
		}
		change(&w)
		if value.Equal(v, w) || value.Equal(w, v) || value.Equal(within(5, v), within(5, w)) {
			t.Errorf("change %d: still Equal", i)
		}
	}
}

// P2.2, R3
func TestEqualOfEmptyLists(t *testing.T) {
	none, empty := api.Value{Kind: api.List}, api.Value{Kind: api.List, List: make([]api.Value, 0, 4)}
	wantOrder(t, none, empty, 0)
	wantOrder(t, empty, none, 0)
	wantOrder(t, list(none, empty), list(empty, none), 0)
}

// P2.2: floats by their bits, not by what they stand for.
func TestEqualOfFloats(t *testing.T) {
	zero, minusZero := math.Float64bits(0), math.Float64bits(math.Copysign(0, -1))
	notANumber := math.Float64bits(math.NaN())
	wantOrder(t, num(api.Double, zero), num(api.Double, minusZero), -1)
	wantOrder(t, num(api.Double, notANumber), num(api.Double, notANumber), 0)
	wantOrder(t, num(api.Double, notANumber), num(api.Double, notANumber+1), -1)
}

// compared is P2.3 said in another way: what decides is looked for, one thing behind the other.
func compared(a, b api.Value) int {
	sign := func(less bool) int {
		if less {
			return -1
		}
		return 1
	}
	if a.Kind != b.Kind {
		return sign(a.Kind < b.Kind)
	}
	if a.Num != b.Num {
		return sign(a.Num < b.Num)
	}
	if a.Text != b.Text {
		return sign(a.Text < b.Text)
	}
	for i := range min(len(a.List), len(b.List)) {
		if written(a.List[i]) != written(b.List[i]) {
			return compared(a.List[i], b.List[i])
		}
	}
	if len(a.List) != len(b.List) {
		return sign(len(a.List) < len(b.List))
	}
	if a.Elem != b.Elem {
		return sign(a.Elem < b.Elem)
	}
	return 0
}

// somewhat is a value of so few different ones that two are often the same, or nearly.
func somewhat(r *rand.Rand, depth int) api.Value {
	v := api.Value{Kind: api.List + r.Intn(2), Num: uint64(r.Intn(8) / 7), Elem: r.Intn(5) / 4}
	if r.Intn(8) == 0 {
		v.Text = "a"
	}
	if depth > 0 {
		v.List = manyValues(r, r.Intn(3), func() api.Value { return somewhat(r, depth-1) })
	}
	return v
}

// P2.2, P2.3
func TestOrderOfManyValues(t *testing.T) {
	r := rand.New(rand.NewSource(23))
	met := map[int]int{}
	for range 20000 {
		depth := r.Intn(3)
		a, b := somewhat(r, depth), somewhat(r, depth)
		if r.Intn(3) == 0 {
			a, b = anyValue(r, 2), anyValue(r, 2)
		}
		want := compared(a, b)
		met[want]++
		wantOrder(t, a, b, want)
	}
	if met[-1] < 1000 || met[0] < 1000 || met[1] < 1000 {
		t.Errorf("too seldom to tell: %v", met)
	}
}

// P2.8
func TestOrderGoesOn(t *testing.T) {
	r := rand.New(rand.NewSource(28))
	for range 20000 {
		depth := r.Intn(3)
		a, b, c := somewhat(r, depth), somewhat(r, depth), somewhat(r, depth)
		ab, bc, ac := value.Order(a, b), value.Order(b, c), value.Order(a, c)
		if ab <= 0 && bc <= 0 && ac > 0 || ab < 0 && bc <= 0 && ac >= 0 || ab <= 0 && bc < 0 && ac >= 0 {
			t.Errorf("%s, %s, %s: %d, %d, but %d", written(a), written(b), written(c), ab, bc, ac)
		}
		if value.Order(b, a) != -ab || (ab == 0) != value.Equal(a, b) || value.Equal(a, b) != value.Equal(b, a) {
			t.Errorf("%s, %s: Order %d and %d, Equal %t and %t", written(a), written(b), ab, value.Order(b, a), value.Equal(a, b), value.Equal(b, a))
		}
		if value.Order(a, a) != 0 || !value.Equal(a, a) {
			t.Errorf("%s is not Equal to itself", written(a))
		}
	}
}

// P2.4
func TestDepth(t *testing.T) {
	x := num(api.Uint, 1)
	for _, c := range []struct {
		v    api.Value
		want int
	}{
		{api.Value{}, 1}, {x, 1}, {list(), 1}, {api.Value{Kind: api.List, List: []api.Value{}}, 1}, {array(api.Uint), 1}, {num(-1, 0), 1}, {num(99, 0), 1},
		{list(x), 2}, {list(list(), x), 2}, {list(x, list()), 2}, {list(list(x)), 3}, {list(x, list(x), x), 3}, {list(list(list(x)), x, list(x)), 4}, {list(list(x), x, list(list(list(x)))), 5},
		{pairs(list(x), x), 3}, {pairs(x, list(x)), 3}, {described(x, list(x)), 3}, {array(api.Array, array(api.Uint, x)), 3},
		{api.Value{Kind: api.Null, List: []api.Value{{Kind: 77, List: []api.Value{x}}}}, 3},
		{within(31, x), 32}, {within(32, x), 33}, {within(1000, x), 1001},
	} {
		if got := value.Depth(c.v); got != c.want {
			t.Errorf("Depth(%.200s): %d, want %d", written(c.v), got, c.want)
		}
	}
}

// depthOf is P2.4 word by word.
func depthOf(v api.Value) int {
	greatest := 0
	for _, part := range v.List {
		greatest = max(greatest, depthOf(part))
	}
	return greatest + 1
}

// P2.4
func TestDepthOfManyValues(t *testing.T) {
	r := rand.New(rand.NewSource(24))
	for range 5000 {
		v := anyValue(r, 5)
		if got, want := value.Depth(v), depthOf(v); got != want {
			t.Errorf("Depth(%s): %d, want %d", written(v), got, want)
		}
	}
}
