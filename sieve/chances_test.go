package sieve_test

import (
	"math"
	"math/rand"
	"slices"
	"strings"
	"testing"

	"longshore/api"
	"longshore/message"
	"longshore/sample"
	"longshore/sieve"
)

// chance makes terms, texts and messages; one of so many operands is wrong (0: none).
type chance struct {
	*rand.Rand
	wrong int
}

func chances(seed int64, wrong int) chance { return chance{rand.New(rand.NewSource(seed)), wrong} }

func (c chance) errs() bool { return c.wrong > 0 && c.Intn(c.wrong) == 0 }

func one[T any](c chance, l []T) T { return l[c.Intn(len(l))] }

// Names that tell something of the messages below, and such as must be quoted.
var someNames = []string{"a", "b", "c", "d", "e", "priority", "durable", "user", "to", "id", "count", "none", "a-b", "a.", "_", "A1._-x", "a b", "and", "NULL", "Not", "it\"s", "é", "1a", "a-", "-", "'", "\"", "a--b", "\x00", "true1", strings.Repeat("n", 64)}

var someTexts = []string{"", "a", "b", "ab", "abc", "red", "it's", "'", "''", "%", "_", "!", "a%", "é", "\u20ac", "\U0001f600", "10%", "a\nb", "\"", "\x00"}

var someLongs = []int64{0, 1, 2, 3, 4, 5, 7, 10, 100, 1 << 31, 1<<53 - 1, 1 << 53, 1<<53 + 1, 1 << 62, math.MaxInt64 - 1, math.MaxInt64}

var someDoubles = []float64{0, 0.1, 0.5, 1, 1.5, 2, 2.5, 3, 100, 1e21, 1e-7, 1 << 53, 1<<53 + 2, 1 << 62, 1 << 63, 1<<63 + 2048, 1<<63 - 1024, 1 << 64, math.MaxFloat64, math.SmallestNonzeroFloat64, 0.3333333333333333, 4.35, 1e22, 1e23, 5e-324, 2.2250738585072014e-308}

var somePatterns = []string{"", "%", "_", "a%", "%a", "a_c", "%b%", "r_d", "10!%", "!!", "!_", "é%", "%%", "__", "a!a", "!%%"}

func (c chance) literal(listed bool) api.Term {
	if c.errs() {
		return lit(one(c, []api.Value{{}, sample.Num(api.Bool, 2), sample.Num(api.Int, 1), sample.Text(api.String, "\xff"), sample.Text(api.Symbol, "a"), float(math.Inf(1)), float(math.NaN()), integer(-1), float(-1), float(math.Copysign(0, -1)), {Kind: api.Long, Text: "a"}, sample.List()}))
	}
	minus := listed && c.Intn(2) == 0
	switch c.Intn(5) {
	case 0:
		return one(c, []api.Term{yes(), no()})
	case 1:
		return str(one(c, someTexts))
	case 2:
		f := one(c, someDoubles)
		if c.Intn(3) == 0 {
			f = math.Abs(math.Float64frombits(c.Uint64() &^ (1 << 62)))
		}
		if minus {
			return double(math.Copysign(f, -1))
		}
		return double(f)
	}
	n := one(c, someLongs)
	if minus {
		return long(-n - int64(c.Intn(2)))
	}
	return long(n)
}

func (c chance) simple() api.Term {
	switch {
	case c.Intn(2) == 0:
		return c.literal(false)
	case c.errs():
		return name(one(c, []string{"", "\xff", "a\x80", strings.Repeat("n", 65)}))
	}
	return name(one(c, someNames))
}

// term is a term of at most so many levels.
func (c chance) term(levels int) api.Term {
	if levels == 0 || c.Intn(6) == 0 {
		return c.simple()
	}
	if c.errs() {
		return one(c, []api.Term{{}, of(21, c.simple()), of(-1), of(sieve.Not), of(sieve.Not, c.simple(), c.simple()), of(sieve.And, c.simple()), of(sieve.Or), of(sieve.Between, c.simple(), c.simple()), of(sieve.In, c.simple()), of(sieve.In, c.simple(), c.simple()), {Kind: sieve.Not, Text: "a", Kids: []api.Term{c.simple()}}, {Kind: sieve.Name, Text: "a", Value: right}, {Kind: sieve.Negative, Value: right, Kids: []api.Term{c.simple()}}, fit(c.simple(), "a!", "!"), fit(c.simple(), "\xff", ""), fit(c.simple(), "a", "%"), fit(c.simple(), "a", "ab")})
	}
	kid := func() api.Term { return c.term(levels - 1) }
	switch kind := sieve.Not + c.Intn(sieve.Negative-sieve.Not+1); kind {
	case sieve.Not, sieve.Negative, sieve.Nothing:
		return of(kind, kid())
	case sieve.And, sieve.Or:
		t := of(kind, kid(), kid())
		for range c.Intn(3) {
			t.Kids = append(t.Kids, kid())
		}
		return t
	case sieve.Between:
		return of(kind, kid(), kid(), kid())
	case sieve.In:
		t := of(kind, kid())
		for range 1 + c.Intn(3) {
			t.Kids = append(t.Kids, c.literal(true))
		}
		return t
	case sieve.Fit:
		pattern, escape := one(c, somePatterns), one(c, []string{"", "", "!", "é", "a", "'"})
		if escape != "" && modelOpen(pattern, escape) {
			pattern += "x"
		}
		return fit(kid(), pattern, escape)
	default:
		return of(kind, kid(), kid())
	}
}

// Values that a message's names may have, such as may not be too.
var someValues = []api.Value{
	{}, right, wrong, integer(0), integer(1), integer(7), integer(-1), integer(math.MaxInt64), integer(math.MinInt64), float(0), float(math.Copysign(0, -1)), float(1), float(2.5), float(-1e300), float(math.Inf(1)), float(math.NaN()), float(1 << 53),
	words(""), words("a"), words("red"), words("é"), words("\xff"), sample.Text(api.Binary, "a"), sample.Text(api.Binary, "\xff\x80"), sample.Text(api.Symbol, "a"), sample.Text(api.Symbol, "\xff"),
	sample.Num(api.Ubyte, 255), sample.Num(api.Ushort, 1), sample.Num(api.Uint, 1<<32-1), sample.Num(api.Ulong, 5), sample.Num(api.Ulong, 1<<63), sample.Num(api.Ulong, 1<<64-1), sample.Num(api.Ulong, 1<<63+1025), sample.Signed(api.Byte, -128), sample.Signed(api.Short, -3), sample.Signed(api.Int, -4), sample.Signed(api.Time, 1000),
	sample.Num(api.Float, uint64(math.Float32bits(0.5))), sample.Num(api.Float, 0x7f800000), sample.Num(api.Char, 'a'), sample.Num(api.Char, 0x20ac), sample.Num(api.Char, 0xd800), sample.Num(api.Dec32, 1), sample.Num(api.Dec64, 1), sample.Text(api.Dec128, "0123456789abcdef"), sample.Text(api.Uuid, "0123456789abcdef"),
	sample.List(), sample.Pairs(), sample.Array(api.Uint), sample.Described(right, right), sample.Num(api.Null, 1), sample.Num(api.Bool, 2), sample.Num(25, 0), sample.Num(api.Byte, 128),
}

func (c chance) message() api.Message {
	m := message.Blank()
	if c.Intn(2) == 0 {
		m.Header = api.Header{Has: c.Intn(2) == 0, Durable: c.Intn(2) == 0, Priority: c.Intn(1000) - 300, Ttl: -1, Count: c.Intn(5)}
		m.Properties.To, m.Properties.UserId = one(c, []string{"", "red", "\xff"}), one(c, []string{"", "red", "\xff"})
		m.Properties.MessageId = one(c, someValues)
	}
	m.App = sample.Pairs()
	for _, key := range []string{"a", "b", "c", "d", "e", "a-b", "a b"} {
		if c.Intn(4) > 0 {
			m.App.List = append(m.App.List, words(key), one(c, someValues))
		}
	}
	return m
}

// someTokens are what a text is made of, such as is none too.
var someTokens = []string{"a", "b", "c-d", "x", "and", "or", "not", "NOT", "between", "in", "like", "escape", "is", "null", "true", "FALSE", "=", "<>", "<", "<=", ">", ">=", "+", "-", "*", "/", "(", ")", ",", "1", "0", "25", "007", "2.5", "1e2", "1E-3", "'a'", "'it''s'", "''", "'!'", "'a!'", "'%'", "\"a b\"", "\"\"\"\"", "9223372036854775807", "9223372036854775808", "9223372036854775809", "1e999", "\"\"", "'\xff'", "\"\xff\"", strings.Repeat("n", 65), "?", "'", "\"", ".", "1.", "1e", "\xff", "a-", "=="}

// text is a row of tokens, more or less as the grammar has them.
func (c chance) text() string {
	var b strings.Builder
	tokens := someTokens
	if c.Intn(2) == 0 {
		tokens = someTokens[:44]
	}
	for range 1 + c.Intn(12) {
		b.WriteString(one(c, tokens))
		b.WriteString(one(c, []string{" ", " ", " ", "", "\t", "\r\n", "  "}))
	}
	return b.String()
}

// spelled is a term as text, with brackets, blanks, capital letters as they come; what can be written with "not" within is so now and then.
func (c chance) spelled(t api.Term) string {
	s := modelPrint(t)
	var b strings.Builder
	for at := 0; ; {
		token := modelNext(s, at)
		if token.class == "end" {
			return b.String()
		}
		at = token.at + len(token.text)
		text := token.text
		if keyword.MatchString(text) && c.Intn(3) == 0 {
			text = strings.ToUpper(text)
		}
		if token.class == "name" && text[0] != '"' && c.Intn(4) == 0 {
			text = "\"" + text + "\""
		}
		if token.class == "name" && c.Intn(6) == 0 {
			text = "((" + text + ") )"
		}
		b.WriteString(one(c, []string{" ", "\n", "\t\r"}) + text)
	}
}

// mutated is a text in which a byte or a piece is another one.
func (c chance) mutated(s string) string {
	at := c.Intn(len(s) + 1)
	to := min(len(s), at+c.Intn(3))
	return s[:at] + one(c, append([]string{""}, someTokens...)) + s[to:]
}

func wantAsModelParses(t *testing.T, text string) api.Errno {
	t.Helper()
	want, at, e := modelParse(text)
	if e != api.OK {
		wantFault(t, text, at, e)
	} else {
		wantTerm(t, text, want)
	}
	return e
}

// P16.2: texts of any kind, against the second program.
func TestChancesOfParse(t *testing.T) {
	c := chances(161, 0)
	came := map[api.Errno]int{}
	for i := range 30000 {
		text := c.text()
		switch i % 4 {
		case 1:
			text = c.spelled(c.term(3))
		case 2:
			text = c.mutated(c.spelled(c.term(2)))
		case 3:
			text = c.mutated(modelPrint(c.term(2)))
		}
		came[wantAsModelParses(t, text)]++
		if t.Failed() {
			return
		}
	}
	for _, e := range []api.Errno{api.OK, api.ErrSieve, api.ErrOperand} {
		if came[e] < 500 {
			t.Errorf("the error %d came %d times", e, came[e])
		}
	}
}

// P16.2: every text of few bytes of those that tokens begin, end and are cut by.
func TestShortTexts(t *testing.T) {
	alphabet := "a1-.e' \"=<>(!"
	for n := range 5 {
		for i := range int(math.Pow(float64(len(alphabet)), float64(n))) {
			text := make([]byte, n)
			for k := range text {
				text[k] = alphabet[i%len(alphabet)]
				i /= len(alphabet)
			}
			wantAsModelParses(t, string(text))
			if t.Failed() {
				return
			}
		}
	}
}

// P16.2: every row of few tokens, so that each token stands, or may not stand, behind each beginning.
func TestShortRows(t *testing.T) {
	tokens := []string{"a", "1", "'!'", "true", "not", "and", "or", "=", "-", "*", "(", ")", ",", "is", "null", "in", "like", "escape", "between"}
	row := []string{}
	var rows func(left int)
	rows = func(left int) {
		wantAsModelParses(t, strings.Join(row, " "))
		if left == 0 || t.Failed() {
			return
		}
		for _, token := range tokens {
			row = append(row, token)
			// Where a beginning is at fault already what stands behind it makes no difference.
			text := strings.Join(row, " ")
			if _, at, e := modelParse(text); e == api.OK || at == len(text) {
				rows(left - 1)
			} else {
				rows(0)
			}
			row = row[:len(row)-1]
		}
	}
	rows(5)
}

// P16.1, P16.3: terms with faults and without, against the second program.
func TestChancesOfCheckAndPrint(t *testing.T) {
	came := map[api.Errno]int{}
	for _, wrong := range []int{0, 60, 10} {
		c := chances(int64(162+wrong), wrong)
		for range 8000 {
			term := c.term(1 + c.Intn(4))
			e := modelCheck(term)
			wantCheck(t, term, e)
			came[e]++
			if e == api.OK {
				if text := modelPrint(term); len(text) <= 4096 {
					wantPrint(t, term, text)
				} else if _, e := sieve.Print(term); e != api.ErrLong {
					t.Errorf("Print of %d bytes: %d", len(text), e)
				}
			}
			if t.Failed() {
				return
			}
		}
	}
	for _, e := range []api.Errno{api.OK, api.ErrSieve, api.ErrOperand} {
		if came[e] < 500 {
			t.Errorf("the error %d came %d times", e, came[e])
		}
	}
}

// P16.5: terms of any kind and messages of any kind, against the second program.
func TestChancesOfEval(t *testing.T) {
	came := map[int]int{}
	for _, wrong := range []int{0, 200} {
		c := chances(int64(163+wrong), wrong)
		for range 20000 {
			term, m := c.term(1+c.Intn(4)), c.message()
			want := modelEval(term, m)
			wantSaid(t, term, m, want)
			came[want.Kind]++
			if t.Failed() {
				return
			}
		}
	}
	for _, kind := range []int{api.Null, api.Bool, api.Long, api.Double, api.String, api.Binary} {
		if came[kind] < 20 {
			t.Errorf("the kind %d was said %d times", kind, came[kind])
		}
	}
}

// P16.5: each comparison and each reckoning of each two values, against the second program.
func TestPairsOfValues(t *testing.T) {
	names := []api.Term{name("a"), name("b")}
	values := slices.Concat(someValues, []api.Value{float(1 << 63), float(-1 << 63), float(-1<<63 - 2048), float(1<<63 - 1024), integer(1<<53 + 1), integer(-1<<53 - 1), integer(1 << 53), float(1<<53 + 2), integer(math.MaxInt64 - 1), integer(math.MinInt64 + 1), integer(3), integer(-3), integer(2), float(-0.5), float(0.5), float(math.MaxFloat64), float(math.SmallestNonzeroFloat64), integer(3037000500), integer(-3037000500), integer(1 << 32)})
	for _, v := range values {
		for _, w := range values {
			m := with(map[string]api.Value{"a": v, "b": w})
			for kind := sieve.And; kind <= sieve.Over; kind++ {
				if kind < sieve.Between || kind > sieve.Nothing {
					term := of(kind, names...)
					wantSaid(t, term, m, modelEval(term, m))
				}
			}
			if t.Failed() {
				return
			}
		}
	}
}

// P16.6: texts and patterns of few signs, against the second program.
func TestChancesOfLike(t *testing.T) {
	c := chances(164, 0)
	signs := []string{"a", "b", "%", "_", "!", "é", "\xc3", "\xa9", "\u20ac", "\xff", "\ufffd"}
	came := map[bool]int{}
	row := func(l []string, n int) string {
		var b strings.Builder
		for range c.Intn(n) {
			b.WriteString(one(c, l))
		}
		return b.String()
	}
	for i := range 200000 {
		l := signs
		if i%2 == 0 {
			l = signs[:5]
		}
		text, pattern, escape := row(l, 7), row(l, 7), one(c, []int{-1, '!', '!', 'a', '%', '_', 0xe9, 0xff, 0xfffd, 0xc3, 0xd800, 0x110000, 0x1100ff, 0x1100c3, math.MinInt, math.MaxInt, 1<<32 + '!', -2})
		want := modelLike(text, pattern, escape)
		if got := sieve.Like(text, pattern, escape); got != want {
			t.Fatalf("Like(%q, %q, %d) = %v", text, pattern, escape, got)
		}
		came[want]++
	}
	if came[true] < 5000 || came[false] < 5000 {
		t.Errorf("%v", came)
	}
}
