package note_test

import (
	"math/rand"
	"strings"
	"testing"

	"longshore/api"
	"longshore/note"
	"longshore/sample"
	"longshore/value"
)

// P4.3, P4.4: each kind, its least and its greatest number.
func TestNumbers(t *testing.T) {
	for kind, limit := range limits {
		for _, digits := range []string{limit[0], limit[1], "0", "1", "10", "100"} {
			n := bigNumber(digits, 10)
			v := num(kind, n.Uint64())
			if n.Sign() < 0 {
				v = signed(kind, n.Int64())
			}
			wantBoth(t, v, kindNames[kind]+" "+digits)
		}
	}
	wantBoth(t, signed(api.Byte, -1), "byte -1")
	wantBoth(t, signed(api.Time, -10), "time -10")
	wantBoth(t, num(api.Char, 0xd7ff), "char 55295")
	wantBoth(t, num(api.Char, 0xe000), "char 57344")
	wantBoth(t, num(api.Bool, 0), "false")
	wantBoth(t, num(api.Bool, 1), "true")
	wantBoth(t, api.Value{}, "null")
}

// P4.3, P4.4: bits.
func TestBits(t *testing.T) {
	for kind, count := range hexDigits {
		for _, digits := range []string{strings.Repeat("0", count), strings.Repeat("f", count), strings.Repeat("0", count-1) + "1", "1" + strings.Repeat("0", count-1), strings.Repeat("0123456789abcdef", 2)[:count], strings.Repeat("fedcba98", 4)[:count]} {
			v := api.Value{Kind: kind}
			if n := bigNumber(digits, 16); count == 32 {
				v.Text = string(n.FillBytes(make([]byte, 16)))
			} else {
				v.Num = n.Uint64()
			}
			wantBoth(t, v, kindNames[kind]+" "+digits)
		}
	}
}

// P4.3, P4.4: words and what has parts; where spaces stand.
func TestTexts(t *testing.T) {
	one, k := num(api.Uint, 1), text(api.Symbol, "k")
	for _, c := range []struct {
		v api.Value
		s string
	}{
		{text(api.String, ""), `""`}, {text(api.Binary, ""), `binary ""`}, {text(api.Symbol, ""), `symbol ""`},
		{text(api.String, "a\"b\u00e9\u0085"), `"a\"b` + "\u00e9" + `\xc2\x85"`}, {text(api.Binary, "\xff\u00e9"), `binary "\xff` + "\u00e9" + `"`}, {text(api.Symbol, "\x7f\n"), `symbol "\x7f\n"`},
		{list(), "[]"}, {pairs(), "{}"}, {list(one), "[uint 1]"}, {list(one, one), "[uint 1 uint 1]"},
		{list(list(), list(), pairs(), described(list(), list())), "[[] [] {} ([] [])]"},
		{list(text(api.String, "["), text(api.String, "]"), text(api.String, ":")), `["[" "]" ":"]`},
		{pairs(k, one), `{symbol "k": uint 1}`}, {pairs(list(), pairs(), pairs(), list()), "{[]: {}, {}: []}"},
		{pairs(text(api.String, ","), text(api.String, ":"), one, api.Value{}), `{",": ":", uint 1: null}`},
		{array(api.Uint, one), "array uint [uint 1]"}, {array(api.Bool, num(api.Bool, 1), num(api.Bool, 0)), "array bool [true false]"},
		{array(api.Array, array(api.Uint), array(api.List, list())), "array array [array uint [] array list [[]]]"},
		{array(api.String, text(api.String, "a"), text(api.String, "")), `array string ["a" ""]`}, {array(api.Map, pairs(), pairs(one, one)), "array map [{} {uint 1: uint 1}]"},
		{described(one, one), "(uint 1 uint 1)"}, {described(described(one, one), described(list(), one)), "((uint 1 uint 1) ([] uint 1))"},
		{list(array(api.Uint), one), "[array uint [] uint 1]"},
	} {
		wantBoth(t, c.v, c.s)
	}
	for kind := api.Bool; kind < api.Described; kind++ {
		wantBoth(t, array(kind), "array "+kindNames[kind]+" []")
	}
}

// P4.3: value.Check's error, ahead of ErrLong.
func TestPrintOfWhatMayNotBe(t *testing.T) {
	long := text(api.Binary, strings.Repeat("a", 1<<21))
	for _, v := range []api.Value{
		num(-1, 0), num(25, 0), num(api.Null, 1), num(api.Bool, 2), num(api.Ubyte, 256), num(api.Byte, 128), num(api.Char, 0xd800), num(api.Float, 1<<32),
		text(api.Uuid, "a"), text(api.Dec128, ""), text(api.String, "\xff"), text(api.Symbol, "\u00e9"), pairs(api.Value{}), pairs(api.Value{}, api.Value{}, api.Value{}, api.Value{}), pairs(sample.Keyed(1025)...),
		array(api.Null), array(api.Described), array(25), array(-1), array(api.Uint, num(api.Int, 1)), described(), described(list()), described(list(), list(), list()), within(32, api.Value{}),
	} {
		e := value.Check(v)
		if e == api.OK {
			t.Fatalf("%s may be", written(v))
		}
		wantPrint(t, v, "", e)
		if v.Kind != api.List {
			wantPrint(t, list(long, v), "", e)
		}
	}
	wantPrint(t, list(long, num(api.Bool, 2), num(25, 0)), "", api.ErrNum)
}

// P4.3, P4.4: 32 values in one another, and 1024 pairs.
func TestGreatestDepth(t *testing.T) {
	for n := range 32 {
		wantBoth(t, within(n, api.Value{}), strings.Repeat("[", n)+"null"+strings.Repeat("]", n))
	}
	wantBoth(t, within(30, array(api.Uint, num(api.Uint, 1))), strings.Repeat("[", 30)+"array uint [uint 1]"+strings.Repeat("]", 30))
	wantBoth(t, within(31, array(api.Uint)), strings.Repeat("[", 31)+"array uint []"+strings.Repeat("]", 31))
	full := pairs(sample.Keyed(1024)...)
	wantBoth(t, full, refPrint(full))
}

// P4.3: a text of just MaxNote bytes, and one more, however it comes to them.
func TestPrintUpToMaxNote(t *testing.T) {
	room := api.MaxNote - len(`""`)
	for _, piece := range []struct{ s, written string }{{"a", "a"}, {"\x00", `\x00`}, {"\"", `\"`}, {"\n", `\n`}, {"\u20ac", "\u20ac"}} {
		n := room / len(piece.written)
		s := strings.Repeat(piece.s, n) + strings.Repeat("b", room-n*len(piece.written))
		want := `"` + strings.Repeat(piece.written, n) + strings.Repeat("b", room-n*len(piece.written)) + `"`
		wantPrint(t, text(api.String, s), want, api.OK)
		wantPrint(t, text(api.String, s+"b"), "", api.ErrLong)
		wantPrint(t, text(api.Binary, s), "", api.ErrLong)
		wantPrint(t, list(text(api.String, s)), "", api.ErrLong)
	}
	// The closing sign is the one byte too many, or the space ahead of a token.
	fill := func(n int) api.Value { return text(api.String, strings.Repeat("a", n)) }
	for _, c := range []struct {
		wrap func(api.Value) api.Value
		more int
	}{
		{func(v api.Value) api.Value { return list(v) }, len("[]")},
		{func(v api.Value) api.Value { return list(v, list()) }, len("[ []]")},
		{func(v api.Value) api.Value { return list(api.Value{}, v) }, len("[null ]")},
		{func(v api.Value) api.Value { return pairs(v, list()) }, len("{: []}")},
		{func(v api.Value) api.Value { return pairs(v, list(), list(), list()) }, len("{: [], []: []}")},
		{func(v api.Value) api.Value { return pairs(list(), list(), list(list()), v, pairs(), list()) }, len("{[]: [], [[]]: , {}: []}")},
		{func(v api.Value) api.Value { return described(num(api.Ulong, 7), v) }, len("(ulong 7 )")},
		{func(v api.Value) api.Value { return array(api.String, v) }, len("array string []")},
		{func(v api.Value) api.Value { return within(31, v) }, 62},
	} {
		v := c.wrap(fill(room - c.more))
		s, e := note.Print(v)
		if len(s) != api.MaxNote || e != api.OK {
			t.Errorf("Print(%.80s): %d bytes, %d", written(v), len(s), e)
		}
		wantParse(t, s, v, 0, api.OK)
		wantParse(t, s+" ", api.Value{}, 0, api.ErrLong)
		// Each of the tokens in turn is the one that is too much.
		for more := range c.more + 1 {
			wantPrint(t, c.wrap(fill(room-more+1)), "", api.ErrLong)
		}
	}
}

// P4.3: far too long.
func TestPrintOfGreatValues(t *testing.T) {
	wantPrint(t, text(api.Binary, strings.Repeat("\x00", 1<<26)), "", api.ErrLong)
	wantPrint(t, list(sample.Many(1<<20, list())...), "", api.ErrLong)
	half := list(sample.Many((1<<20)/5-1, api.Value{})...)
	if s, e := note.Print(half); e != api.OK || s != refPrint(half) {
		t.Errorf("Print of many values: %d bytes, %d", len(s), e)
	}
}

// P4.3: any values, against the chapter said in another way.
func TestPrintOfAnyValues(t *testing.T) {
	r, simple := rand.New(rand.NewSource(42)), simple()
	for range 3000 {
		v := mayBe(r.Intn, simple, r.Intn(5))
		want := refPrint(v)
		if len(want) > api.MaxNote {
			wantPrint(t, v, "", api.ErrLong)
			continue
		}
		wantPrint(t, v, want, api.OK)
	}
}
