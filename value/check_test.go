package value_test

import (
	"math"
	"math/big"
	"math/rand"
	"strings"
	"testing"
	"unicode/utf8"

	"longshore/api"
	"longshore/value"
)

func TestErrorNumbers(t *testing.T) {
	for i, e := range []api.Errno{api.ErrKind, api.ErrNum, api.ErrText, api.ErrMap, api.ErrArray, api.ErrExtra, api.ErrDeep, api.ErrParts} {
		if int(e) != 20+i {
			t.Errorf("the error in place %d is %d, want %d", i, e, 20+i)
		}
	}
}

// P2.1
func TestCheckOfEachKind(t *testing.T) {
	for kind, v := range ofEachKind() {
		if v.Kind != kind {
			t.Fatalf("the sample's value in place %d has the kind %d", kind, v.Kind)
		}
		wantCheck(t, v, api.OK)
	}
}

// P2.1
func TestCheckOfNoKind(t *testing.T) {
	for _, kind := range []int{-1, -2, -24, 25, 26, 100, 102, 256, 256 + api.Bool, 1 << 32, math.MinInt, math.MaxInt} {
		wantCheck(t, num(kind, 0), api.ErrKind)
		wantCheck(t, list(num(api.Bool, 1), num(kind, 0)), api.ErrKind)
		wantCheck(t, api.Value{Kind: kind, Num: 1, Text: "\xff", Elem: 99, List: []api.Value{num(kind, 0)}}, api.ErrKind)
	}
}

// limits are the least and the greatest number of each kind that has one.
func limits() map[int][2]*big.Int {
	power := func(n uint, less int64) *big.Int {
		return new(big.Int).Sub(new(big.Int).Lsh(big.NewInt(1), n), big.NewInt(less))
	}
	below := func(bits uint) [2]*big.Int { return [2]*big.Int{new(big.Int), power(bits, 1)} }
	signed := func(bits uint) [2]*big.Int {
		return [2]*big.Int{new(big.Int).Neg(power(bits-1, 0)), power(bits-1, 1)}
	}
	return map[int][2]*big.Int{
		api.Bool: below(1), api.Ubyte: below(8), api.Ushort: below(16), api.Uint: below(32), api.Ulong: below(64),
		api.Byte: signed(8), api.Short: signed(16), api.Int: signed(32), api.Long: signed(64), api.Time: signed(64),
		api.Float: below(32), api.Dec32: below(32), api.Double: below(64), api.Dec64: below(64),
		api.Char: {new(big.Int), big.NewInt(0x10ffff)},
	}
}

// meant is the number that a Num of that kind stands for.
func meant(kind int, n uint64) *big.Int {
	switch kind {
	case api.Byte, api.Short, api.Int, api.Long, api.Time:
		return big.NewInt(int64(n))
	}
	return new(big.Int).SetUint64(n)
}

// numMayBe says by exact numbers what the chapter's table says of Num.
func numMayBe(kind int, n uint64) bool {
	limit, has := limits()[kind]
	if !has {
		return true
	}
	if kind == api.Char && n >= 0xd800 && n <= 0xdfff {
		return false
	}
	number := meant(kind, n)
	return number.Cmp(limit[0]) >= 0 && number.Cmp(limit[1]) <= 0
}

// P2.1: each kind's numbers around all of the kinds' ends.
func TestCheckOfNumbers(t *testing.T) {
	var ends []uint64
	for bit := range 64 {
		for _, end := range []uint64{1 << bit, -(1 << bit)} {
			ends = append(ends, end-2, end-1, end, end+1)
		}
	}
	ends = append(ends, 0xd7ff, 0xd800, 0xdbff, 0xdc00, 0xdfff, 0xe000, 0xfffd, 0xfffe, 0xffff, 0x10fffe, 0x10ffff, 0x110000, 0x110001, math.MaxUint64)
	for kind := range limits() {
		for _, n := range ends {
			want := api.OK
			if !numMayBe(kind, n) {
				want = api.ErrNum
			}
			wantCheck(t, num(kind, n), want)
		}
	}
}

// P2.1
func TestCheckOfTexts(t *testing.T) {
	long := strings.Repeat("a", 5000)
	for _, c := range []struct {
		text                                string
		dec128, uuid, binary, strng, symbol api.Errno
	}{
		{"", api.ErrText, api.ErrText, api.OK, api.OK, api.OK},
		{"0123456789abcde", api.ErrText, api.ErrText, api.OK, api.OK, api.OK},
		{"0123456789abcdef", api.OK, api.OK, api.OK, api.OK, api.OK},
		{"0123456789abcdefg", api.ErrText, api.ErrText, api.OK, api.OK, api.OK},
		{"\xff0123456789abcde", api.OK, api.OK, api.OK, api.ErrText, api.ErrText},
		{strings.Repeat("\u20ac", 16), api.ErrText, api.ErrText, api.OK, api.OK, api.ErrText},
		{"\x00\x7f", api.ErrText, api.ErrText, api.OK, api.OK, api.OK},
		{"a\x80", api.ErrText, api.ErrText, api.OK, api.ErrText, api.ErrText},
		{"\u20ac", api.ErrText, api.ErrText, api.OK, api.OK, api.ErrText},
		{"\ufffd", api.ErrText, api.ErrText, api.OK, api.OK, api.ErrText},
		{"\xed\xa0\x80", api.ErrText, api.ErrText, api.OK, api.ErrText, api.ErrText},
		{"\xc0\x80", api.ErrText, api.ErrText, api.OK, api.ErrText, api.ErrText},
		{"\xf4\x90\x80\x80", api.ErrText, api.ErrText, api.OK, api.ErrText, api.ErrText},
		{"a\xe2\x82", api.ErrText, api.ErrText, api.OK, api.ErrText, api.ErrText},
		{long, api.ErrText, api.ErrText, api.OK, api.OK, api.OK},
	} {
		wantCheck(t, text(api.Dec128, c.text), c.dec128)
		wantCheck(t, text(api.Uuid, c.text), c.uuid)
		wantCheck(t, text(api.Binary, c.text), c.binary)
		wantCheck(t, text(api.String, c.text), c.strng)
		wantCheck(t, text(api.Symbol, c.text), c.symbol)
	}
}

// has tells which fields a kind has.
type has struct{ num, text, list, elem bool }

func fieldsOf(kind int) has {
	switch kind {
	case api.Null:
		return has{}
	case api.Dec128, api.Uuid, api.Binary, api.String, api.Symbol:
		return has{text: true}
	case api.List, api.Map, api.Described:
		return has{list: true}
	case api.Array:
		return has{list: true, elem: true}
	}
	return has{num: true}
}

// P2.1: one field too many, each of them, on a value that may be and on one that has another fault too.
func TestCheckOfExtraFields(t *testing.T) {
	for kind, good := range ofEachKind() {
		bad := api.Value{Kind: kind}
		switch fields := fieldsOf(kind); {
		case fields.num:
			bad.Num = math.MaxUint64
		case fields.text:
			bad.Text = "\xff"
		case fields.list:
			bad.List = []api.Value{num(-1, 0)}
		}
		for _, v := range []api.Value{good, bad} {
			wantExtra(t, v)
		}
	}
}

func wantExtra(t *testing.T, v api.Value) {
	t.Helper()
	fields := fieldsOf(v.Kind)
	if !fields.num {
		for _, n := range []uint64{1, 1 << 63, math.MaxUint64} {
			w := v
			w.Num = n
			wantCheck(t, w, api.ErrExtra)
		}
	}
	if !fields.text {
		for _, s := range []string{"a", "\x00", "\xff"} {
			w := v
			w.Text = s
			wantCheck(t, w, api.ErrExtra)
		}
	}
	if !fields.list {
		w := v
		w.List = []api.Value{{}}
		wantCheck(t, w, api.ErrExtra)
	}
	if !fields.elem {
		for _, elem := range []int{1, -1, 4, 99} {
			w := v
			w.Elem = elem
			wantCheck(t, w, api.ErrExtra)
		}
	}
}

// P2.1, R3: an empty list is as good as none, whatever room is behind it.
func TestCheckOfEmptyLists(t *testing.T) {
	for kind, v := range ofEachKind() {
		if !fieldsOf(kind).list {
			v.List = []api.Value{}
			wantCheck(t, v, api.OK)
			v.List = []api.Value{num(-1, 0)}[:0]
			wantCheck(t, v, api.OK)
		}
	}
	for _, kind := range []int{api.List, api.Map} {
		wantCheck(t, api.Value{Kind: kind}, api.OK)
		wantCheck(t, api.Value{Kind: kind, List: []api.Value{}}, api.OK)
		wantCheck(t, api.Value{Kind: kind, List: []api.Value{num(-1, 0)}[:0]}, api.OK)
	}
}

// manyPairs is a map of so many keys, which all differ.
func manyPairs(n int) api.Value {
	m := pairs()
	for i := range n {
		m.List = append(m.List, num(api.Uint, uint64(i*7919%(n+1))), num(api.Uint, 5))
	}
	return m
}

// P2.1
func TestCheckOfMapsCounts(t *testing.T) {
	k, v := text(api.String, "k"), num(api.Uint, 1)
	for _, c := range []struct {
		v    api.Value
		want api.Errno
	}{
		{pairs(), api.OK}, {pairs(k), api.ErrMap}, {pairs(k, v), api.OK}, {pairs(k, v, v), api.ErrMap}, {pairs(k, v, v, k), api.OK},
		{manyPairs(1023), api.OK}, {manyPairs(1024), api.OK}, {manyPairs(1025), api.ErrMap}, {manyPairs(2048), api.ErrMap},
		{pairs(manyPairs(1024).List[:2047]...), api.ErrMap}, {pairs(manyPairs(1025).List[:2049]...), api.ErrMap},
	} {
		wantCheck(t, c.v, c.want)
	}
}

// P2.1
func TestCheckOfKeysTwice(t *testing.T) {
	v := num(api.Uint, 1)
	for first := range 6 {
		for second := range 6 {
			m := manyPairs(6)
			m.List[2*first] = text(api.String, "twice")
			m.List[2*second] = text(api.String, "twice")
			want := api.ErrMap
			if first == second {
				want = api.OK
			}
			wantCheck(t, m, want)
		}
	}
	m := manyPairs(1024)
	m.List[2046] = m.List[0]
	wantCheck(t, m, api.ErrMap)
	wantCheck(t, pairs(num(api.Uint, 1), v, num(api.Int, 1), v, num(api.Ulong, 1), v), api.OK)
	wantCheck(t, pairs(text(api.String, "a"), v, text(api.Symbol, "a"), v, text(api.Binary, "a"), v), api.OK)
	wantCheck(t, pairs(num(api.Uint, 1), num(api.Uint, 2), num(api.Uint, 2), num(api.Uint, 1)), api.OK)
	wantCheck(t, pairs(num(api.Double, 0), v, num(api.Double, 1<<63), v), api.OK)
	wantCheck(t, pairs(num(api.Double, 0), v, num(api.Double, 0), v), api.ErrMap)
	notANumber := uint64(0x7ff8000000000001)
	wantCheck(t, pairs(num(api.Double, notANumber), v, num(api.Double, notANumber), v), api.ErrMap)
	wantCheck(t, pairs(num(api.Double, notANumber), v, num(api.Double, notANumber+1), v), api.OK)
	wantCheck(t, pairs(list(v), v, list(v), v), api.ErrMap)
	wantCheck(t, pairs(list(v), v, list(v, v), v), api.OK)
	wantCheck(t, pairs(list(), v, list([]api.Value{}...), v), api.ErrMap)
	wantCheck(t, pairs(array(api.Uint), v, array(api.Int), v), api.OK)
	wantCheck(t, pairs(array(api.Uint), v, array(api.Uint), v), api.ErrMap)
	wantCheck(t, pairs(api.Value{}, v, api.Value{}, v), api.ErrMap)
}

// P2.1
func TestCheckOfArrays(t *testing.T) {
	for elem := -2; elem <= 27; elem++ {
		want := api.OK
		if elem < 1 || elem > 23 {
			want = api.ErrArray
		}
		wantCheck(t, array(elem), want)
		for kind, v := range ofEachKind() {
			want := api.OK
			if elem < 1 || elem > 23 || kind != elem {
				want = api.ErrArray
			}
			wantCheck(t, array(elem, v), want)
			if elem >= 0 && elem <= 24 {
				wantCheck(t, array(elem, ofEachKind()[elem], ofEachKind()[elem], v), want)
			}
		}
	}
	for _, elem := range []int{math.MinInt, math.MaxInt, 256 + api.Uint, 1<<32 + api.Uint} {
		wantCheck(t, array(elem), api.ErrArray)
	}
	wantCheck(t, array(api.Array, array(api.Uint), array(api.Int)), api.OK)
	wantCheck(t, array(api.Array, array(api.Uint), array(api.Null)), api.ErrArray)
	wantCheck(t, array(api.Bool, num(api.Bool, 1), num(api.Bool, 2)), api.ErrNum)
}

// P2.1
func TestCheckOfDescribed(t *testing.T) {
	v := num(api.Ulong, 16)
	for n := range 6 {
		want := api.ErrParts
		if n == 2 {
			want = api.OK
		}
		wantCheck(t, described(manyPairs(3).List[:n]...), want)
	}
	wantCheck(t, described(v, v), api.OK)
	wantCheck(t, described(described(v, v), described(api.Value{}, api.Value{})), api.OK)
}

// P2.1: what stands in lists, maps, arrays, described values; as key, as value.
func TestCheckOfDepth(t *testing.T) {
	v := num(api.Uint, 1)
	wraps := []func(api.Value) api.Value{
		func(x api.Value) api.Value { return list(x) },
		func(x api.Value) api.Value { return list(v, list(), x) },
		func(x api.Value) api.Value { return pairs(x, v) },
		func(x api.Value) api.Value { return pairs(v, x) },
		func(x api.Value) api.Value { return array(x.Kind, x) },
		func(x api.Value) api.Value {
			if x.Kind == api.Described {
				return list(x)
			}
			return described(x, v)
		},
	}
	for i, wrap := range wraps {
		for depth := 31; depth <= 34; depth++ {
			x := list()
			for n := 1; n < depth; n++ {
				x = wrap(x)
			}
			want := api.OK
			if depth > 32 {
				want = api.ErrDeep
			}
			if got := value.Check(x); got != want {
				t.Errorf("wrap %d, depth %d: %d, want %d", i, depth, got, want)
			}
		}
	}
	wantCheck(t, within(31, v), api.OK)
	wantCheck(t, within(32, v), api.ErrDeep)
}

// P2.1: of one value's faults the first named, at the edge of depth too.
func TestCheckOfSeveralFaults(t *testing.T) {
	odd := pairs(num(api.Uint, 1))
	for _, c := range []struct {
		v    api.Value
		want api.Errno
	}{
		{within(32, num(25, 1)), api.ErrKind}, {within(32, num(-1, 1)), api.ErrKind},
		{within(32, num(api.Null, 1)), api.ErrDeep}, {within(32, num(api.Bool, 2)), api.ErrDeep}, {within(32, text(api.String, "\xff")), api.ErrDeep},
		{within(32, odd), api.ErrDeep}, {within(32, array(0)), api.ErrDeep}, {within(32, described()), api.ErrDeep},
		{within(31, num(api.Null, 1)), api.ErrExtra}, {within(31, odd), api.ErrMap}, {within(31, array(0)), api.ErrArray}, {within(31, described()), api.ErrParts},
		{within(33, num(25, 0)), api.ErrDeep}, {within(200, num(25, 0)), api.ErrDeep},
		{api.Value{Kind: api.Map, Num: 1, List: odd.List}, api.ErrExtra},
		{api.Value{Kind: api.Array, Num: 1}, api.ErrExtra}, {api.Value{Kind: api.Array, Text: "a"}, api.ErrExtra},
		{api.Value{Kind: api.Described, Text: "a"}, api.ErrExtra}, {api.Value{Kind: api.Described, Elem: 1}, api.ErrExtra},
		{api.Value{Kind: api.Bool, Num: 2, Text: "a"}, api.ErrExtra}, {api.Value{Kind: api.Symbol, Num: 2, Text: "\xff"}, api.ErrExtra},
	} {
		wantCheck(t, c.v, c.want)
	}
}

// P2.1: a value ahead of its parts, each part with all that stands in it ahead of the next one.
func TestCheckGoesInOrder(t *testing.T) {
	noKind, noNum, noText := num(30, 0), num(api.Bool, 2), text(api.String, "\xff")
	v := num(api.Uint, 1)
	for _, c := range []struct {
		v    api.Value
		want api.Errno
	}{
		{list(noKind, noNum), api.ErrKind}, {list(noNum, noKind), api.ErrNum}, {list(v, v, noText), api.ErrText},
		{list(list(list(noNum)), noKind), api.ErrNum}, {list(list(v), noKind, list(noNum)), api.ErrKind},
		{list(list(noText), list(noNum)), api.ErrText},
		{pairs(noKind, v, noKind, v), api.ErrMap}, {pairs(noKind), api.ErrMap}, {pairs(noKind, v), api.ErrKind}, {pairs(v, noNum), api.ErrNum},
		{pairs(v, noNum, noKind, v), api.ErrNum}, {pairs(noText, noNum), api.ErrText},
		{pairs(v, list(noNum), noKind, v), api.ErrNum},
		{array(api.Uint, noKind), api.ErrArray}, {array(api.Bool, noNum, noKind), api.ErrArray}, {array(0, noNum), api.ErrArray}, {array(30, noKind), api.ErrArray},
		{described(noKind), api.ErrParts}, {described(v, v, noKind), api.ErrParts}, {described(noText, noKind), api.ErrText}, {described(v, noKind), api.ErrKind},
		{list(num(api.Null, 1), noKind), api.ErrExtra},
		{api.Value{Kind: api.List, Elem: 1, List: []api.Value{noKind}}, api.ErrExtra},
	} {
		wantCheck(t, c.v, c.want)
	}
}

// firstFault is P2.1 said in another way: all faults in the order in which they are met, and the first of them.
func firstFault(v api.Value) api.Errno {
	if found := faults(v, 1); len(found) > 0 {
		return found[0]
	}
	return api.OK
}

func faults(v api.Value, depth int) []api.Errno {
	var found []api.Errno
	note := func(is bool, e api.Errno) {
		if is {
			found = append(found, e)
		}
	}
	isKind := v.Kind >= 0 && v.Kind <= 24
	fields := fieldsOf(v.Kind)
	note(!isKind, api.ErrKind)
	note(depth > 32, api.ErrDeep)
	note(isKind && (!fields.num && v.Num != 0 || !fields.text && v.Text != "" || !fields.list && len(v.List) != 0 || !fields.elem && v.Elem != 0), api.ErrExtra)
	note(!numMayBe(v.Kind, v.Num), api.ErrNum)
	note((v.Kind == api.Dec128 || v.Kind == api.Uuid) && len(v.Text) != 16, api.ErrText)
	note(v.Kind == api.String && !utf8.ValidString(v.Text), api.ErrText)
	note(v.Kind == api.Symbol && strings.ContainsFunc(v.Text, func(r rune) bool { return r > 127 }), api.ErrText)
	note(v.Kind == api.Map && !keysDiffer(v.List), api.ErrMap)
	note(v.Kind == api.Array && !arrayMayBe(v), api.ErrArray)
	note(v.Kind == api.Described && len(v.List) != 2, api.ErrParts)
	for _, part := range v.List {
		found = append(found, faults(part, depth+1)...)
	}
	return found
}

func keysDiffer(l []api.Value) bool {
	keys := map[string]bool{}
	for i := 0; i+1 < len(l); i += 2 {
		keys[written(l[i])] = true
	}
	return 2*len(keys) == len(l) && len(keys) <= 1024
}

func arrayMayBe(v api.Value) bool {
	for _, part := range v.List {
		if part.Kind != v.Elem {
			return false
		}
	}
	return v.Elem >= 1 && v.Elem <= 23
}

// P2.1: many values, most of which may be or nearly so.
func TestCheckOfManyValues(t *testing.T) {
	r := rand.New(rand.NewSource(21))
	met := map[api.Errno]int{}
	for range 30000 {
		v := likely(r, 3)
		if r.Intn(4) == 0 {
			v = anyValue(r, 2)
		}
		if r.Intn(20) == 0 {
			v = within(27+r.Intn(6), v)
		}
		want := firstFault(v)
		met[want]++
		wantCheck(t, v, want)
	}
	for e := api.ErrKind; e <= api.ErrParts; e++ {
		if met[e] < 20 {
			t.Errorf("the error %d was met %d times: too seldom to tell", e, met[e])
		}
	}
	if met[api.OK] < 5000 {
		t.Errorf("values that may be were met %d times: too seldom to tell", met[api.OK])
	}
}
