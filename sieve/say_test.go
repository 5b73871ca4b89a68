package sieve_test

import (
	"math"
	"strings"
	"testing"

	"longshore/api"
	"longshore/message"
	"longshore/sample"
	"longshore/sieve"
)

// of1 is a message of which the name v says something.
func of1(v api.Value) api.Message { return with(map[string]api.Value{"v": v}) }

// of2 is a message of which the names v and w say something.
func of2(v, w api.Value) api.Message { return with(map[string]api.Value{"v": v, "w": w}) }

// elses are values that say something else.
var elses = []api.Value{
	sample.Num(api.Dec32, 0), sample.Num(api.Dec64, 1), sample.Text(api.Dec128, "0123456789abcdef"), sample.Text(api.Uuid, "0123456789abcdef"), sample.List(), sample.List(right), sample.Pairs(), sample.Array(api.Uint), sample.Described(right, right),
	float(math.Inf(1)), float(math.Inf(-1)), float(math.NaN()), sample.Num(api.Float, 0x7f800000), sample.Num(api.Float, 0xff800000), sample.Num(api.Float, 0x7fc00000), sample.Num(api.Float, 0x7f800001),
	// Such as value.Check refuses.
	words("\xff"), words("a\xc3"), sample.Text(api.Symbol, "\x80"), sample.Num(api.Null, 1), sample.Text(api.Null, "a"), sample.Num(api.Bool, 2), sample.Num(api.Ubyte, 256), sample.Num(api.Ushort, 65536), sample.Num(api.Uint, 1<<32), sample.Num(api.Byte, 128), sample.Num(api.Short, 1<<15), sample.Num(api.Int, 1<<31), sample.Num(api.Char, 0xd800), sample.Num(api.Char, 0x110000), sample.Num(api.Float, 1<<32), {Kind: api.Long, Text: "a"}, {Kind: api.Double, Elem: 1}, {Kind: api.String, Num: 1}, {Kind: api.Long, List: []api.Value{{}}}, sample.Num(25, 0), sample.Num(-1, 0), sample.Described(right), sample.Pairs(right), sample.Within(40, right), sample.Text(api.Uuid, "a"),
}

// P16.5: what each kind of value says.
func TestEvalOfValues(t *testing.T) {
	v := name("v")
	for _, x := range []struct{ v, want api.Value }{
		{api.Value{}, unknown}, {right, right}, {wrong, wrong},
		{sample.Num(api.Ubyte, 0), integer(0)}, {sample.Num(api.Ubyte, 255), integer(255)}, {sample.Num(api.Ushort, 65535), integer(65535)}, {sample.Num(api.Uint, 1<<32-1), integer(1<<32 - 1)}, {sample.Num(api.Ulong, 0), integer(0)}, {sample.Num(api.Ulong, math.MaxInt64), integer(math.MaxInt64)},
		{sample.Signed(api.Byte, -128), integer(-128)}, {sample.Signed(api.Short, -32768), integer(-32768)}, {sample.Signed(api.Int, -1<<31), integer(-1 << 31)}, {integer(math.MinInt64), integer(math.MinInt64)}, {integer(math.MaxInt64), integer(math.MaxInt64)}, {sample.Signed(api.Time, -5), integer(-5)}, {sample.Signed(api.Time, math.MinInt64), integer(math.MinInt64)}, {sample.Num(api.Byte, 127), integer(127)},
		{sample.Num(api.Ulong, 1<<63), float(1 << 63)}, {sample.Num(api.Ulong, 1<<63+1024), float(1 << 63)}, {sample.Num(api.Ulong, 1<<63+1025), float(1<<63 + 2048)}, {sample.Num(api.Ulong, 1<<63+3072), float(1<<63 + 4096)}, {sample.Num(api.Ulong, 1<<63+3071), float(1<<63 + 2048)}, {sample.Num(api.Ulong, 1<<64-1), float(1 << 64)}, {sample.Num(api.Ulong, 1<<64-1025), float(1<<64 - 2048)}, {sample.Num(api.Ulong, 1<<64-1024), float(1 << 64)},
		{float(0), float(0)}, {float(math.Copysign(0, -1)), float(math.Copysign(0, -1))}, {float(-2.5), float(-2.5)}, {float(math.MaxFloat64), float(math.MaxFloat64)}, {float(5e-324), float(5e-324)},
		{sample.Num(api.Float, uint64(math.Float32bits(0.1))), float(float64(float32(0.1)))}, {sample.Num(api.Float, 1<<31), float(math.Copysign(0, -1))}, {sample.Num(api.Float, 1), float(math.SmallestNonzeroFloat32)}, {sample.Num(api.Float, 0x7f7fffff), float(math.MaxFloat32)},
		{words(""), words("")}, {words("é"), words("é")}, {sample.Text(api.Symbol, "a"), words("a")}, {sample.Text(api.Binary, "a"), words("a")}, {sample.Text(api.Binary, "é"), words("é")}, {sample.Text(api.Binary, "\xff"), sample.Text(api.Binary, "\xff")}, {sample.Text(api.Binary, "a\xc3"), sample.Text(api.Binary, "a\xc3")}, {sample.Text(api.Binary, ""), words("")},
		{sample.Num(api.Char, 0), words("\x00")}, {sample.Num(api.Char, 'a'), words("a")}, {sample.Num(api.Char, 0x20ac), words("\u20ac")}, {sample.Num(api.Char, 0x10ffff), words("\U0010ffff")}, {sample.Num(api.Char, 0xfffd), words("\ufffd")},
	} {
		m := of1(x.v)
		wantSaid(t, v, m, x.want)
		is := wrong
		if sample.Same(x.want, unknown) {
			is = right
		}
		wantSaid(t, of(sieve.Nothing, v), m, is)
	}
	for _, x := range elses {
		m := of1(x)
		wantSaid(t, v, m, unknown)
		wantSaid(t, of(sieve.Nothing, v), m, wrong)
		wantSaid(t, of(sieve.Same, v, v), m, unknown)
		wantSaid(t, of(sieve.Not, v), m, unknown)
		wantSaid(t, of(sieve.And, v, no()), m, wrong)
		wantSaid(t, of(sieve.Or, v, yes()), m, right)
		wantSaid(t, of(sieve.And, v, yes()), m, unknown)
		wantSaid(t, of(sieve.Plus, v, long(1)), m, unknown)
		wantSaid(t, of(sieve.Negative, v), m, unknown)
		wantSaid(t, fit(v, "%", ""), m, unknown)
		wantSaid(t, of(sieve.In, v, long(1), str("")), m, unknown)
		wantSaid(t, of(sieve.Between, v, long(0), long(9)), m, unknown)
		wantSaid(t, of(sieve.Nothing, of(sieve.Not, v)), m, right)
	}
	for _, x := range []api.Value{right, wrong, integer(0), integer(math.MaxInt64), float(0.1), float(math.MaxFloat64), words(""), words("é'\x00")} {
		wantSaid(t, lit(x), message.Blank(), x)
		wantSaid(t, lit(x), api.Message{}, x)
	}
}

// P16.5: what a name is looked up as, also of messages that may not be.
func TestEvalOfNames(t *testing.T) {
	m := message.Blank()
	for name, want := range map[string]api.Value{"priority": integer(4), "durable": wrong, "first": wrong, "ttl": unknown, "count": integer(0), "id": unknown, "to": unknown, "sequence": unknown, "a": unknown} {
		wantSaid(t, api.Term{Kind: sieve.Name, Text: name}, m, want)
	}
	m.Header = api.Header{Priority: -1, Ttl: 1 << 40, Count: -1, First: true, Durable: true}
	m.Properties.To, m.Properties.UserId, m.Properties.ContentType, m.Properties.Subject, m.Properties.Sequence = "\xff", "\xff", "\x80", "s", 7
	m.Properties.MessageId, m.Properties.Correlation = sample.Num(api.Bool, 1), sample.Num(api.Ulong, 1<<63)
	for name, want := range map[string]api.Value{"priority": integer(255), "durable": right, "first": right, "ttl": integer(0), "count": integer(1<<32 - 1), "id": right, "correlation": float(1 << 63), "to": unknown, "user": sample.Text(api.Binary, "\xff"), "content-type": unknown, "subject": words("s"), "sequence": integer(7)} {
		wantSaid(t, api.Term{Kind: sieve.Name, Text: name}, m, want)
	}
	wantSays(t, "to is null", m, wrong)
	wantSays(t, "content-type is null", m, wrong)
	wantSays(t, "reply-to is null", m, right)
	wantSays(t, "PRIORITY is null", m, right)
	m.App = sample.Pairs(words("k"), integer(1), words("k"), integer(2), words("priority"), integer(9), words("é "), integer(3), words("odd"))
	wantSays(t, "k", m, integer(1))
	wantSays(t, "priority", m, integer(255))
	wantSays(t, "\"é \"", m, integer(3))
	wantSays(t, "odd is null", m, right)
	m.App = sample.List(words("k"), integer(1))
	wantSays(t, "k is null", m, right)
	m = api.Message{Body: 77, Sequences: []api.Value{right}}
	wantSays(t, "priority", m, integer(0))
	wantSays(t, "ttl", m, integer(0))
}

// The sorts of what a term may say, with two of each that are not the same (but of what is unknown).
var sorts = map[string][2]api.Value{"unknown": {}, "truth": {wrong, right}, "integer": {integer(1), integer(2)}, "float": {float(1.5), float(2.5)}, "text": {words("a"), words("b")}, "else": {sample.Num(api.Dec32, 1), sample.Num(api.Dec32, 2)}}

func isNumber(sort string) bool { return sort == "integer" || sort == "float" }

// P16.5: each comparison and each reckoning of each two sorts.
func TestEvalOfSorts(t *testing.T) {
	v, w := name("v"), name("w")
	for first, l := range sorts {
		for second, r := range sorts {
			ordered := isNumber(first) && isNumber(second) || first == "text" && second == "text"
			same := ordered || first == "truth" && second == "truth"
			m := of2(l[0], r[1])
			for kind := sieve.Same; kind <= sieve.MoreOrSame; kind++ {
				want := unknown
				switch {
				case kind == sieve.Unlike && same, (kind == sieve.Less || kind == sieve.LessOrSame) && ordered:
					want = right
				case kind == sieve.Same && same, ordered:
					want = wrong
				}
				wantSaid(t, of(kind, v, w), m, want)
			}
			for kind := sieve.Plus; kind <= sieve.Over; kind++ {
				if !isNumber(first) || !isNumber(second) {
					wantSaid(t, of(kind, v, w), m, unknown)
				} else if sample.Same(sieve.Eval(of(kind, v, w), m), unknown) {
					t.Errorf("%s of %s and %s is unknown", kindNames[kind], first, second)
				}
			}
		}
		m := of1(l[0])
		switch first {
		case "integer":
			wantSaid(t, of(sieve.Negative, v), m, integer(-1))
		case "float":
			wantSaid(t, of(sieve.Negative, v), m, float(-1.5))
		default:
			wantSaid(t, of(sieve.Negative, v), m, unknown)
		}
		want := unknown
		if first == "text" {
			want = right
		}
		wantSaid(t, fit(v, "a", ""), m, want)
	}
}

// P16.5: three values, in all threes of them, and of what is no truth.
func TestEvalOfLogic(t *testing.T) {
	values := []api.Value{wrong, unknown, right, integer(1), float(0), words("true"), sample.List()}
	rank := func(v api.Value) int {
		switch {
		case sample.Same(v, right):
			return 2
		case sample.Same(v, wrong):
			return 0
		}
		return 1
	}
	back := []api.Value{wrong, unknown, right}
	a, b, c := name("a"), name("b"), name("c")
	for _, x := range values {
		for _, y := range values {
			m := with(map[string]api.Value{"a": x, "b": y})
			wantSaid(t, of(sieve.Not, a), m, back[2-rank(x)])
			wantSaid(t, of(sieve.And, a, b), m, back[min(rank(x), rank(y))])
			wantSaid(t, of(sieve.Or, a, b), m, back[max(rank(x), rank(y))])
			for _, z := range values {
				m := with(map[string]api.Value{"a": x, "b": y, "c": z})
				wantSaid(t, of(sieve.And, a, b, c), m, back[min(rank(x), rank(y), rank(z))])
				wantSaid(t, of(sieve.Or, a, b, c), m, back[max(rank(x), rank(y), rank(z))])
			}
		}
	}
}

// P16.5: how numbers, texts and truths stand, exactly.
func TestEvalOfOrders(t *testing.T) {
	// Rows of values, each row less than the next, those of one row the same.
	numbers := [][]api.Value{
		{float(-math.MaxFloat64)}, {float(-1<<63 - 2048)}, {float(-1 << 63), integer(math.MinInt64)}, {integer(math.MinInt64 + 1)}, {integer(-1<<63 + 1023)}, {integer(-1<<63 + 1024), float(-1<<63 + 1024)}, {integer(-1<<53 - 1)}, {integer(-1 << 53), float(-1 << 53)}, {integer(-1<<53 + 1), float(-1<<53 + 1)}, {float(-1.5)}, {integer(-1), float(-1), sample.Signed(api.Byte, -1)}, {float(-0.5)}, {float(-5e-324)},
		{integer(0), float(0), float(math.Copysign(0, -1)), sample.Num(api.Ulong, 0), sample.Num(api.Float, 1<<31)}, {float(5e-324)}, {float(0.5)}, {integer(1), float(1), sample.Num(api.Float, uint64(math.Float32bits(1)))}, {float(1.5)},
		{integer(1<<53 - 1), float(1<<53 - 1)}, {integer(1 << 53), float(1 << 53)}, {integer(1<<53 + 1)}, {integer(1<<53 + 2), float(1<<53 + 2)}, {integer(1<<53 + 3)}, {integer(1<<62 + 1)}, {float(1<<63 - 1024), integer(1<<63 - 1024)}, {integer(math.MaxInt64 - 1)}, {integer(math.MaxInt64), sample.Num(api.Ulong, math.MaxInt64)}, {float(1 << 63), sample.Num(api.Ulong, 1<<63), sample.Num(api.Ulong, 1<<63+1)}, {float(1<<63 + 2048), sample.Num(api.Ulong, 1<<63+2048)}, {float(1 << 64), sample.Num(api.Ulong, 1<<64-1)}, {float(math.MaxFloat64)},
	}
	texts := [][]api.Value{{words(""), sample.Text(api.Binary, ""), sample.Text(api.Symbol, "")}, {words("\x00")}, {words("A")}, {words("a"), sample.Num(api.Char, 'a'), sample.Text(api.Binary, "a"), sample.Text(api.Symbol, "a")}, {words("a\x00")}, {words("aa")}, {words("b")}, {words("é"), sample.Num(api.Char, 0xe9), sample.Text(api.Binary, "\xc3\xa9")}, {words("\ufffd")}, {words("\U00010000")}, {sample.Text(api.Binary, "\xff")}}
	v, w := name("v"), name("w")
	for _, rows := range [][][]api.Value{numbers, texts} {
		for i, left := range rows {
			for k, r := range rows {
				for _, x := range left {
					for _, y := range r {
						m := of2(x, y)
						for kind, is := range map[int]bool{sieve.Same: i == k, sieve.Unlike: i != k, sieve.Less: i < k, sieve.LessOrSame: i <= k, sieve.More: i > k, sieve.MoreOrSame: i >= k} {
							want := wrong
							if is {
								want = right
							}
							wantSaid(t, of(kind, v, w), m, want)
						}
					}
				}
			}
		}
	}
	for _, x := range []struct {
		text string
		want api.Value
	}{{"true = true", right}, {"true = false", wrong}, {"false = false", right}, {"true <> false", right}, {"true <> true", wrong}, {"true < false", unknown}, {"true >= true", unknown}, {"false <= true", unknown}, {"(1 = 2) = (2 = 3)", right}, {"true = 1", unknown}, {"'true' = true", unknown}, {"'1' = 1", unknown}, {"none = none", unknown}, {"none <> none", unknown}, {"0 = -0.0", right}, {"0.0 = -0.0", right}, {"0 < -0.0", wrong}} {
		wantSays(t, x.text, message.Blank(), x.want)
	}
}

// P16.5: Between, In, Fit and Nothing.
func TestEvalOfRanges(t *testing.T) {
	m := with(map[string]api.Value{"n": integer(5), "s": words("red"), "b": sample.Text(api.Binary, "\xff\xfe"), "o": sample.List()})
	for text, want := range map[string]api.Value{
		"n between 1 and 9": right, "n between 5 and 5": right, "n between 5 and 9": right, "n between 1 and 5": right, "n between 6 and 9": wrong, "n between 1 and 4": wrong, "n between 9 and 1": wrong, "n between 4.5 and 5.5": right, "n between none and 9": unknown, "n between 1 and none": unknown, "n between none and 4": wrong, "n between 6 and none": wrong, "n between 'a' and 4": wrong, "n between 'a' and 6": unknown, "none between 1 and 2": unknown, "none between none and none": unknown, "s between 'a' and 'z'": right, "s between 'red' and 'red'": right, "s between 'rf' and 'z'": wrong, "true between false and true": unknown, "n not between 1 and 4": right, "n not between none and 9": unknown, "o between 1 and 2": unknown,
		"n in (5)": right, "n in (4)": wrong, "n in (5.0)": right, "n in (4, 5)": right, "n in (4, 6)": wrong, "n in ('x')": unknown, "n in ('x', 5)": right, "n in (5, 'x')": right, "n in ('x', 4)": unknown, "n in (true)": unknown, "none in (1)": unknown, "none in (1, 'x', true)": unknown, "s in ('red')": right, "s in ('blue', 'red')": right, "s in ('blue')": wrong, "-n in (-5)": right, "-n in (5)": wrong, "(n = 5) in (true)": right, "(n = 5) in (false)": wrong, "n not in (4)": right, "n not in ('x', 4)": unknown, "0 in (-0.0)": right, "o in (1)": unknown, "n in (-9223372036854775808, 5)": right,
		"s like 'r_d'": right, "s like 'r%'": right, "s like 'R%'": wrong, "s like ''": wrong, "'' like ''": right, "n like '5'": unknown, "none like '%'": unknown, "true like 'true'": unknown, "o like '%'": unknown, "b like '__'": right, "b like '_'": wrong, "s like 'r!e!d' escape '!'": right, "'50%' like '50!%' escape '!'": right, "'500' like '50!%' escape '!'": wrong, "'50!' like '50!%'": right, "s not like 'r%'": wrong, "none not like 'r%'": unknown, "'é' like '_'": right, "'éx' like 'éé_' escape 'é'": right, "'a%' like 'aé%' escape 'é'": right, "'ab' like 'aé%' escape 'é'": wrong, "'a%b' like '%\x00%_' escape '\x00'": right,
		"none is null": right, "none is not null": wrong, "n is null": wrong, "n is not null": right, "o is null": wrong, "s is null": wrong, "b is null": wrong, "(none = 1) is null": right, "(n = 1) is null": wrong, "(not s) is null": right, "n / 0 is null": right, "true is null": wrong, "1 is null": wrong, "'' is null": wrong, "(none is null) is null": wrong, "(n between none and 9) is null": right, "(n like '5') is null": right, "-s is null": right,
	} {
		wantSays(t, text, m, want)
	}
}

// P16.5: numbers as they are reckoned.
func TestEvalOfReckoning(t *testing.T) {
	const least, most = math.MinInt64, math.MaxInt64
	i, f := integer, float
	minusZero := f(math.Copysign(0, -1))
	v, w := name("v"), name("w")
	for _, x := range []struct {
		kind           int
		a, b, comesOut api.Value
	}{
		{sieve.Plus, i(2), i(3), i(5)}, {sieve.Plus, i(most), i(0), i(most)}, {sieve.Plus, i(most - 1), i(1), i(most)}, {sieve.Plus, i(most), i(1), f(1 << 63)}, {sieve.Plus, i(most), i(most), f(1 << 64)}, {sieve.Plus, i(least), i(-1), f(-1 << 63)}, {sieve.Plus, i(least), i(least), f(-1 << 64)}, {sieve.Plus, i(least), i(most), i(-1)}, {sieve.Plus, i(least + 1), i(-1), i(least)}, {sieve.Plus, i(-5), i(5), i(0)},
		{sieve.Minus, i(2), i(3), i(-1)}, {sieve.Minus, i(least), i(0), i(least)}, {sieve.Minus, i(least), i(1), f(-1 << 63)}, {sieve.Minus, i(most), i(-1), f(1 << 63)}, {sieve.Minus, i(0), i(least), f(1 << 63)}, {sieve.Minus, i(-1), i(least), i(most)}, {sieve.Minus, i(most), i(least), f(1 << 64)}, {sieve.Minus, i(least), i(most), f(-1 << 64)}, {sieve.Minus, i(least), i(least), i(0)}, {sieve.Minus, i(-2), i(most), f(-1 << 63)}, {sieve.Minus, i(-1), i(most), i(least)},
		{sieve.Times, i(6), i(7), i(42)}, {sieve.Times, i(0), i(least), i(0)}, {sieve.Times, i(least), i(0), i(0)}, {sieve.Times, i(least), i(1), i(least)}, {sieve.Times, i(1), i(least), i(least)}, {sieve.Times, i(least), i(-1), f(1 << 63)}, {sieve.Times, i(-1), i(least), f(1 << 63)}, {sieve.Times, i(most), i(-1), i(-most)}, {sieve.Times, i(1 << 32), i(1 << 31), f(1 << 63)}, {sieve.Times, i(1 << 32), i(-1 << 31), i(least)}, {sieve.Times, i(3037000500), i(3037000500), f(9223372037000250000)}, {sieve.Times, i(3037000499), i(3037000499), i(9223372030926249001)}, {sieve.Times, i(1 << 62), i(2), f(1 << 63)}, {sieve.Times, i(1 << 62), i(-2), i(least)}, {sieve.Times, i(1 << 32), i(1 << 32), f(1 << 64)}, {sieve.Times, i(least), i(least), f(1 << 126)}, {sieve.Times, i(-1 << 33), i(1 << 33), f(-1 << 66)}, {sieve.Times, i(-3), i(-4), i(12)},
		{sieve.Over, i(6), i(2), i(3)}, {sieve.Over, i(7), i(2), f(3.5)}, {sieve.Over, i(-6), i(2), i(-3)}, {sieve.Over, i(-7), i(-2), f(3.5)}, {sieve.Over, i(1), i(3), f(1.0 / 3)}, {sieve.Over, i(0), i(5), i(0)}, {sieve.Over, i(5), i(0), unknown}, {sieve.Over, i(0), i(0), unknown}, {sieve.Over, i(5), f(0), unknown}, {sieve.Over, i(5), minusZero, unknown}, {sieve.Over, f(5), i(0), unknown}, {sieve.Over, f(0), f(0), unknown}, {sieve.Over, i(least), i(-1), f(1 << 63)}, {sieve.Over, i(least), i(1), i(least)}, {sieve.Over, i(least), i(2), i(-1 << 62)}, {sieve.Over, i(most), i(2), f(4611686018427387904)}, {sieve.Over, i(most), i(most), i(1)}, {sieve.Over, i(1<<53 + 1), i(2), f(1 << 52)}, {sieve.Over, i(least), i(least), i(1)}, {sieve.Over, i(1), i(least), f(-0x1p-63)}, {sieve.Over, i(most), i(-1), i(-most)},
		// One of them is a float: both are.
		{sieve.Plus, i(1), f(0.5), f(1.5)}, {sieve.Plus, f(0.5), i(1), f(1.5)}, {sieve.Plus, f(1), f(2), f(3)}, {sieve.Plus, i(1<<53 + 1), f(0), f(1 << 53)}, {sieve.Plus, i(1<<53 + 3), f(0), f(1<<53 + 4)}, {sieve.Plus, i(most), f(0), f(1 << 63)}, {sieve.Plus, f(0.1), f(0.2), f(0.30000000000000004)}, {sieve.Plus, i(-1<<53 - 1), f(0), f(-1 << 53)}, {sieve.Minus, f(1), f(1), f(0)}, {sieve.Minus, i(1), f(1), f(0)}, {sieve.Minus, f(0), f(0), f(0)}, {sieve.Minus, minusZero, i(0), minusZero}, {sieve.Plus, minusZero, minusZero, minusZero}, {sieve.Plus, minusZero, i(0), f(0)}, {sieve.Times, i(2), f(2.5), f(5)}, {sieve.Times, i(-1), f(0), minusZero}, {sieve.Times, i(0), f(-1), minusZero}, {sieve.Over, i(0), f(-1), minusZero}, {sieve.Over, i(6), f(2), f(3)}, {sieve.Over, i(6), f(1), f(6)}, {sieve.Over, f(6), i(1), f(6)}, {sieve.Over, f(0), f(1), f(0)}, {sieve.Over, minusZero, i(5), minusZero}, {sieve.Over, minusZero, f(0), unknown}, {sieve.Over, f(-5), minusZero, unknown}, {sieve.Over, f(1), i(3), f(1.0 / 3)}, {sieve.Times, f(5e-324), f(0.5), f(0)}, {sieve.Times, f(5e-324), f(0.75), f(5e-324)}, {sieve.Over, f(5e-324), f(-4), minusZero},
		// What is not finite is unknown.
		{sieve.Times, f(1e308), i(10), unknown}, {sieve.Times, f(-1e308), i(10), unknown}, {sieve.Plus, f(math.MaxFloat64), f(math.MaxFloat64), unknown}, {sieve.Minus, f(-math.MaxFloat64), f(math.MaxFloat64), unknown}, {sieve.Over, f(1e308), f(1e-10), unknown}, {sieve.Over, f(1), f(5e-324), unknown}, {sieve.Plus, f(math.MaxFloat64), i(1), f(math.MaxFloat64)}, {sieve.Plus, f(math.MaxFloat64), f(0x1p970), unknown}, {sieve.Plus, f(math.MaxFloat64), f(0x1p969), f(math.MaxFloat64)},
	} {
		wantSaid(t, of(x.kind, v, w), of2(x.a, x.b), x.comesOut)
		is := wrong
		if sample.Same(x.comesOut, unknown) {
			is = right
		}
		wantSaid(t, of(sieve.Nothing, of(x.kind, v, w)), of2(x.a, x.b), is)
	}
	for _, x := range []struct{ a, comesOut api.Value }{{i(5), i(-5)}, {i(-5), i(5)}, {i(0), i(0)}, {i(most), i(-most)}, {i(least), f(1 << 63)}, {i(least + 1), i(most)}, {f(2.5), f(-2.5)}, {f(-2.5), f(2.5)}, {f(0), minusZero}, {minusZero, f(0)}, {f(math.MaxFloat64), f(-math.MaxFloat64)}, {f(5e-324), f(-5e-324)}, {sample.Num(api.Ulong, 1<<63), f(-1 << 63)}, {right, unknown}, {words("5"), unknown}, {unknown, unknown}} {
		wantSaid(t, of(sieve.Negative, v), of1(x.a), x.comesOut)
	}
	m := message.Blank()
	for text, want := range map[string]api.Value{
		"1 + 2 * 3": i(7), "(1 + 2) * 3": i(9), "10 - 4 - 3": i(3), "2 * 3 / 4": f(1.5), "8 / 4 / 2": i(1), "7 / 2 * 2": f(7), "7 / 2 * 2 = 7": right, "--5": i(5), "-5 + 3": i(-2), "1 / 3 * 3 = 1": right, "0.1 + 0.2 = 0.3": wrong, "9223372036854775807 + 1 - 1 = 9223372036854775807": wrong, "-9223372036854775807 - 1": i(least), "-(-9223372036854775807 - 1)": f(1 << 63), "1e308 * 10 - 1e308": unknown, "1 + 'x'": unknown, "1 + true": unknown, "true + true": unknown, "1 + none": unknown, "'a' + 'b'": unknown, "-'5'": unknown, "-true": unknown, "-none": unknown, "none / 0": unknown, "0 / none": unknown, "1 / 0 * 0": unknown, "0 * none": unknown, "6 / 2 = 3": right, "6.0 / 2": f(3), "5 - 5.0": f(0), "-0.0": minusZero, "-0": i(0), "0 * -1": i(0),
	} {
		wantSays(t, text, m, want)
	}
}

// P16.5: a term that Check refuses says nothing, whatever stands in it.
func TestEvalOfRefused(t *testing.T) {
	m := of1(right)
	for _, term := range []api.Term{{}, of(21), of(sieve.Or, yes(), name("")), of(sieve.Or, yes(), of(sieve.Not)), of(sieve.And, yes()), of(sieve.Or, yes(), long(-1)), of(sieve.Nothing, long(-1)), lit(api.Value{}), lit(sample.Num(api.Int, 1)), chain(257), wide(257), of(sieve.Or, append(wide(257).Kids, yes())...), {Kind: sieve.Literal, Value: right, Text: "a"}, of(sieve.In, yes(), yes(), name("v")), fit(str("a"), "a", "%"), of(sieve.Or, yes(), lit(float(math.Inf(1))))} {
		wantSaid(t, term, m, unknown)
	}
	wantSaid(t, of(sieve.Or, append(wide(256).Kids[:254], yes())...), m, right)
	deep := chain(256)
	wantSaid(t, deep, with(map[string]api.Value{"a": right}), wrong)
	wantSaid(t, chain(255), with(map[string]api.Value{"a": right}), right)
	wantSaid(t, bushy(255), m, integer(128))
	wantSaid(t, str(strings.Repeat("x", 100000)), m, words(strings.Repeat("x", 100000)))
}
