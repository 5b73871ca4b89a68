package sieve_test

import (
	"math"
	"math/big"
	"regexp"
	"slices"
	"strconv"
	"strings"
	"unicode/utf8"

	"longshore/api"
	"longshore/message"
	"longshore/sample"
	"longshore/sieve"
	"longshore/value"
)

// The second program. It is written from the chapter in other ways than the first one: Check goes over a list of all terms, Parse is a stack that is driven by the grammar's rules as they are written, Like a table of all places, numbers are exact fractions.

// flat is a term as a list: a term ahead of its Kids.
func flat(t api.Term, listed bool) (terms []api.Term, areListed []bool) {
	terms, areListed = []api.Term{t}, []bool{listed}
	for i, kid := range t.Kids {
		more, are := flat(kid, t.Kind == sieve.In && i > 0)
		terms, areListed = append(terms, more...), append(areListed, are...)
	}
	return terms, areListed
}

// The kinds that have a Text, a Value, and how many Kids each kind has; -2: two or more.
var (
	withText  = []int{sieve.Name, sieve.Fit}
	withValue = []int{sieve.Literal, sieve.Fit}
	kidCounts = map[int]int{1: 0, 2: 0, 3: 1, 4: -2, 5: -2, 6: 2, 7: 2, 8: 2, 9: 2, 10: 2, 11: 2, 12: 3, 13: -2, 14: 1, 15: 1, 16: 2, 17: 2, 18: 2, 19: 2, 20: 1}
)

func modelCheck(t api.Term) api.Errno {
	terms, listed := flat(t, false)
	if len(terms) > 256 {
		return api.ErrTerms
	}
	for i, t := range terms {
		count, is := kidCounts[t.Kind]
		formed := is && (count == len(t.Kids) || count == -2 && len(t.Kids) > 1)
		formed = formed && (t.Text == "" || slices.Contains(withText, t.Kind)) && (sample.Same(t.Value, api.Value{}) || slices.Contains(withValue, t.Kind))
		if formed && t.Kind == sieve.In {
			formed = !slices.ContainsFunc(t.Kids[1:], func(kid api.Term) bool { return kid.Kind != sieve.Literal })
		}
		if !formed {
			return api.ErrSieve
		}
		if !modelOperand(t, listed[i]) {
			return api.ErrOperand
		}
	}
	return api.OK
}

func modelOperand(t api.Term, listed bool) bool {
	switch t.Kind {
	case sieve.Name:
		return len(t.Text) > 0 && len(t.Text) < 65 && utf8.ValidString(t.Text)
	case sieve.Literal:
		if value.Check(t.Value) != api.OK {
			return false
		}
		minus := t.Value.Num>>63 == 1 && !listed
		switch t.Value.Kind {
		case api.Bool, api.String:
			return true
		case api.Long:
			return !minus
		case api.Double:
			return !minus && t.Value.Num>>52&2047 != 2047
		}
		return false
	case sieve.Fit:
		if !utf8.ValidString(t.Text) {
			return false
		}
		if sample.Same(t.Value, api.Value{}) {
			return true
		}
		return value.Check(t.Value) == api.OK && t.Value.Kind == api.String && modelEscape(t.Value.Text) && !modelOpen(t.Text, t.Value.Text)
	}
	return true
}

func modelEscape(s string) bool {
	return utf8.ValidString(s) && utf8.RuneCountInString(s) == 1 && s != "%" && s != "_"
}

// modelOpen tells whether a pattern ends with an escape that escapes nothing: whether that which ends it stands behind an even number of escapes.
func modelOpen(pattern, escape string) bool {
	n := 0
	for strings.HasSuffix(pattern, escape) {
		pattern = strings.TrimSuffix(pattern, escape)
		n++
	}
	return n%2 == 1
}

// The tokens, as the chapter has them. A text that is followed by a further quotation mark is not closed by what looks like its end.
var (
	blanks    = regexp.MustCompile(`^[\t\n\r ]*`)
	spellings = []struct {
		class string
		is    *regexp.Regexp
	}{
		{"number", regexp.MustCompile(`^[0-9]+(\.[0-9]+)?([eE][+-]?[0-9]+)?`)},
		{"text", regexp.MustCompile(`(?s)^'([^']|'')*'`)},
		{"quoted", regexp.MustCompile(`(?s)^"([^"]|"")*"`)},
		{"word", regexp.MustCompile(`^[a-zA-Z_]([a-zA-Z0-9_.]|-[a-zA-Z0-9_])*`)},
		{"sign", regexp.MustCompile(`^(<>|<=|>=|[=<>+\-*/(),])`)},
	}
	keyword = regexp.MustCompile(`(?i)^(and|or|not|between|in|like|escape|is|null|true|false)$`)
)

// modelToken is a token: what it counts as in the rules, how it is written, its place.
type modelToken struct {
	class, text string
	at          int
}

// modelNext reads a token; its class is "none" where none begins.
func modelNext(text string, at int) modelToken {
	// The expressions know of characters alone, so each byte above 7F is taken as a letter that stands in no token but in quotation marks.
	rest := []byte(text[at:])
	for i, c := range rest {
		if c > 0x7f {
			rest[i] = 0x7f
		}
	}
	at += len(blanks.Find(rest))
	rest = rest[len(blanks.Find(rest)):]
	if len(rest) == 0 {
		return modelToken{"end", "", at}
	}
	for _, s := range spellings {
		n := len(s.is.Find(rest))
		if n == 0 {
			continue
		}
		token := modelToken{s.class, text[at : at+n], at}
		switch {
		case (s.class == "text" || s.class == "quoted") && n < len(rest) && rest[n] == rest[0]:
			token.class = "none"
		case s.class == "quoted":
			token.class = "name"
		case s.class == "word" && keyword.MatchString(token.text):
			token.class = strings.ToLower(token.text)
		case s.class == "word":
			token.class = "name"
		case s.class == "sign":
			token.class = token.text
		}
		return token
	}
	return modelToken{"none", "", at}
}

// rules is the grammar, each line a rule and what it may be: names of rules (capital letters), of tokens. What stands behind "like" and behind a listed minus has names of its own, as other things are asked of it.
var rules = func() map[string][][]string {
	m := map[string][][]string{}
	for _, line := range strings.Split(strings.TrimSpace(`
OR: AND ORS
ORS: or AND ORS
ORS:
AND: NOT ANDS
ANDS: and NOT ANDS
ANDS:
NOT: not NOT
NOT: COMPARISON
COMPARISON: SUM TAIL
TAIL: = SUM
TAIL: <> SUM
TAIL: < SUM
TAIL: <= SUM
TAIL: > SUM
TAIL: >= SUM
TAIL: not TURNABLE
TAIL: TURNABLE
TAIL: is NULL
TAIL:
NULL: not null
NULL: null
TURNABLE: between SUM and SUM
TURNABLE: in ( LISTED LISTEDS )
TURNABLE: like pattern ESCAPE
ESCAPE: escape escapetext
ESCAPE:
LISTEDS: , LISTED LISTEDS
LISTEDS:
SUM: PRODUCT SUMS
SUMS: + PRODUCT SUMS
SUMS: - PRODUCT SUMS
SUMS:
PRODUCT: UNARY PRODUCTS
PRODUCTS: * UNARY PRODUCTS
PRODUCTS: / UNARY PRODUCTS
PRODUCTS:
UNARY: - UNARY
UNARY: number
UNARY: text
UNARY: true
UNARY: false
UNARY: name
UNARY: ( OR )
LISTED: - negative
LISTED: number
LISTED: text
LISTED: true
LISTED: false`), "\n") {
		left, rightSide, _ := strings.Cut(line, ":")
		m[left] = append(m[left], strings.Fields(rightSide))
	}
	return m
}()

// classOf is what a token of the rules is written as.
func classOf(symbol string) string {
	switch symbol {
	case "pattern", "escapetext":
		return "text"
	case "negative":
		return "number"
	}
	return symbol
}

// firsts are the classes of tokens with which each rule may begin.
var firsts = func() map[string][]string {
	m := map[string][]string{}
	var find func(symbol string) []string
	find = func(symbol string) []string {
		if rules[symbol] == nil {
			return []string{classOf(symbol)}
		}
		if m[symbol] == nil {
			for _, side := range rules[symbol] {
				if len(side) > 0 {
					m[symbol] = append(m[symbol], find(side[0])...)
				}
			}
		}
		return m[symbol]
	}
	for symbol := range rules {
		find(symbol)
	}
	return m
}()

// mayBegin tells whether a symbol may begin with a token of a class.
func mayBegin(symbol, class string) bool {
	return classOf(symbol) == class || slices.Contains(firsts[symbol], class)
}

// node is a symbol that was read, with what stands below it.
type node struct {
	symbol string
	token  modelToken
	below  []*node
}

// modelParse is the stack: what is still to be read.
func modelParse(text string) (api.Term, int, api.Errno) {
	if len(text) > 4096 {
		return api.Term{}, 0, api.ErrLong
	}
	root := &node{symbol: "OR"}
	stack := []*node{{symbol: "end"}, root}
	var pattern modelToken
	next, have, at := modelToken{}, false, 0
	for len(stack) > 0 {
		if !have {
			next, have = modelNext(text, at), true
			at = next.at + len(next.text)
		}
		if next.class == "none" {
			return api.Term{}, next.at, api.ErrSieve
		}
		n := stack[len(stack)-1]
		stack = stack[:len(stack)-1]
		if rules[n.symbol] != nil {
			i := slices.IndexFunc(rules[n.symbol], func(side []string) bool {
				return len(side) == 0 || mayBegin(side[0], next.class)
			})
			if i < 0 {
				return api.Term{}, next.at, api.ErrSieve
			}
			for _, symbol := range rules[n.symbol][i] {
				n.below = append(n.below, &node{symbol: symbol})
			}
			for _, below := range slices.Backward(n.below) {
				stack = append(stack, below)
			}
			continue
		}
		if classOf(n.symbol) != next.class {
			return api.Term{}, next.at, api.ErrSieve
		}
		n.token, have = next, false
		if n.symbol == "pattern" {
			pattern = next
		}
		if place, is := modelTaken(n.symbol, next, pattern); !is {
			return api.Term{}, place, api.ErrOperand
		}
	}
	t := termOf(root)
	if terms, _ := flat(t, false); len(terms) > 256 {
		return api.Term{}, 0, api.ErrTerms
	}
	return t, 0, api.OK
}

// modelTaken tells whether what a token says may be where it stands; else the place that is told.
func modelTaken(symbol string, token, pattern modelToken) (int, bool) {
	switch symbol {
	case "number", "negative":
		_, is := modelNumber(token.text, symbol == "negative")
		return token.at, is
	case "text", "pattern":
		return token.at, utf8.ValidString(token.text)
	case "name":
		s := nameSaid(token.text)
		return token.at, len(s) > 0 && len(s) < 65 && utf8.ValidString(s)
	case "escapetext":
		if !modelEscape(inner(token.text)) {
			return token.at, false
		}
		return pattern.at, !modelOpen(inner(pattern.text), inner(token.text))
	}
	return 0, true
}

// inner is what stands in quotation marks.
func inner(s string) string {
	return strings.ReplaceAll(s[1:len(s)-1], s[:1]+s[:1], s[:1])
}

func nameSaid(s string) string {
	if s[0] == '"' {
		return inner(s)
	}
	return s
}

// modelNumber reads a number as an exact fraction.
func modelNumber(s string, minus bool) (api.Value, bool) {
	if !strings.ContainsAny(s, ".eE") {
		n, _ := new(big.Int).SetString(s, 10)
		if minus {
			n.Neg(n)
		}
		return sample.Signed(api.Long, n.Int64()), n.IsInt64()
	}
	f, finite := nearest(s)
	if minus {
		f = math.Copysign(f, -1)
	}
	return float(f), finite
}

// nearest is the Double nearest to a number with digits and an exponent; false: it is not finite.
func nearest(s string) (float64, bool) {
	digits, exponent, _ := strings.Cut(strings.ToLower(s), "e")
	exact, _ := new(big.Rat).SetString(digits)
	shift, _ := new(big.Int).SetString("0"+strings.TrimLeft(exponent, "+-"), 10)
	if shift.Cmp(big.NewInt(9000)) > 0 {
		shift = big.NewInt(9000)
	}
	ten := new(big.Int).Exp(big.NewInt(10), shift, nil)
	if strings.HasPrefix(exponent, "-") {
		exact.Quo(exact, new(big.Rat).SetInt(ten))
	} else {
		exact.Mul(exact, new(big.Rat).SetInt(ten))
	}
	f, _ := exact.Float64()
	return f, !math.IsInf(f, 0)
}

// termOf is the term that the nodes of a tree say.
func termOf(n *node) api.Term {
	switch n.symbol {
	case "OR":
		return oneOrAll(sieve.Or, n)
	case "AND":
		return oneOrAll(sieve.And, n)
	case "NOT":
		if len(n.below) == 2 {
			return of(sieve.Not, termOf(n.below[1]))
		}
		return termOf(n.below[0])
	case "COMPARISON":
		return tailed(termOf(n.below[0]), n.below[1])
	case "SUM", "PRODUCT":
		kinds := map[string]int{"+": sieve.Plus, "-": sieve.Minus, "*": sieve.Times, "/": sieve.Over}
		t := termOf(n.below[0])
		for rest := n.below[1]; len(rest.below) > 0; rest = rest.below[2] {
			t = of(kinds[rest.below[0].symbol], t, termOf(rest.below[1]))
		}
		return t
	case "UNARY", "LISTED":
		switch n.below[0].symbol {
		case "(":
			return termOf(n.below[1])
		case "-":
			if n.symbol == "LISTED" {
				return termOf(n.below[1])
			}
			return of(sieve.Negative, termOf(n.below[1]))
		}
		return termOf(n.below[0])
	case "number", "negative":
		v, _ := modelNumber(n.token.text, n.symbol == "negative")
		return lit(v)
	case "text":
		return str(inner(n.token.text))
	case "true":
		return yes()
	case "false":
		return no()
	}
	return name(nameSaid(n.token.text))
}

func oneOrAll(kind int, n *node) api.Term {
	kids := []api.Term{termOf(n.below[0])}
	for rest := n.below[1]; len(rest.below) > 0; rest = rest.below[2] {
		kids = append(kids, termOf(rest.below[1]))
	}
	if len(kids) == 1 {
		return kids[0]
	}
	return of(kind, kids...)
}

// tailed is a comparison whose left side is known.
func tailed(left api.Term, tail *node) api.Term {
	if len(tail.below) == 0 {
		return left
	}
	switch symbol := tail.below[0].symbol; symbol {
	case "is":
		t := of(sieve.Nothing, left)
		if len(tail.below[1].below) == 2 {
			return of(sieve.Not, t)
		}
		return t
	case "not":
		return of(sieve.Not, turnable(left, tail.below[1]))
	case "TURNABLE":
		return turnable(left, tail.below[0])
	default:
		return of(signs[symbol], left, termOf(tail.below[1]))
	}
}

var signs = map[string]int{"=": sieve.Same, "<>": sieve.Unlike, "<": sieve.Less, "<=": sieve.LessOrSame, ">": sieve.More, ">=": sieve.MoreOrSame}

func turnable(left api.Term, n *node) api.Term {
	switch n.below[0].symbol {
	case "between":
		return of(sieve.Between, left, termOf(n.below[1]), termOf(n.below[3]))
	case "like":
		escape := ""
		if l := n.below[2].below; len(l) > 0 {
			escape = inner(l[1].token.text)
		}
		return fit(left, inner(n.below[1].token.text), escape)
	}
	t := of(sieve.In, left, termOf(n.below[2]))
	for rest := n.below[3]; len(rest.below) > 0; rest = rest.below[2] {
		t.Kids = append(t.Kids, termOf(rest.below[1]))
	}
	return t
}

// modelPrint writes a term with no thought of how long it is: the tokens, a blank between all of them, and then those taken away that do not stand there. Tokens that need none on one side carry a byte there that stands in no text.
func modelPrint(t api.Term) string {
	s := strings.Join(tokensOf(t), " ")
	return strings.NewReplacer("\xfe ", "", " \xff", "").Replace(s)
}

// inBrackets are the kinds of Kids that the chapter names: for each kind, the left one and the others.
func inBrackets(kind, i, kid int) bool {
	low := kid >= sieve.Not && kid <= sieve.Nothing
	switch kind {
	case sieve.Or:
		return kid == sieve.Or
	case sieve.And, sieve.Not:
		return kid == sieve.And || kid == sieve.Or
	case sieve.Plus, sieve.Minus:
		return low || i == 1 && (kid == sieve.Plus || kid == sieve.Minus)
	case sieve.Times, sieve.Over:
		return low || kid == sieve.Plus || kid == sieve.Minus || i == 1 && (kid == sieve.Times || kid == sieve.Over)
	case sieve.Negative:
		return low || kid >= sieve.Plus && kid <= sieve.Over
	}
	return low
}

func kidTokens(t api.Term, i int) []string {
	l := tokensOf(t.Kids[i])
	if inBrackets(t.Kind, i, t.Kids[i].Kind) {
		return slices.Concat([]string{"(\xfe"}, l, []string{"\xff)"})
	}
	return l
}

func tokensOf(t api.Term) []string {
	quote := func(s, mark string) string { return mark + strings.ReplaceAll(s, mark, mark+mark) + mark }
	kid := func(i int) []string { return kidTokens(t, i) }
	switch t.Kind {
	case sieve.Literal:
		return literalTokens(t.Value)
	case sieve.Name:
		if token := modelNext(t.Text, 0); token.class == "name" && token.text == t.Text && t.Text[0] != '"' {
			return []string{t.Text}
		}
		return []string{quote(t.Text, "\"")}
	case sieve.Not:
		return append([]string{"not"}, kid(0)...)
	case sieve.Negative:
		return append([]string{"-\xfe"}, kid(0)...)
	case sieve.Between:
		return slices.Concat(kid(0), []string{"between"}, kid(1), []string{"and"}, kid(2))
	case sieve.Nothing:
		return append(kid(0), "is", "null")
	case sieve.Fit:
		l := append(kid(0), "like", quote(t.Text, "'"))
		if t.Value.Kind != api.Null {
			l = append(l, "escape", quote(t.Value.Text, "'"))
		}
		return l
	case sieve.In:
		l := append(kid(0), "in", "(\xfe")
		for _, listed := range t.Kids[1:] {
			l = append(append(l, literalTokens(listed.Value)...), "\xff,")
		}
		l[len(l)-1] = "\xff)"
		return l
	}
	var l []string
	for i := range t.Kids {
		l = append(append(l, kid(i)...), map[int]string{4: "and", 5: "or", 6: "=", 7: "<>", 8: "<", 9: "<=", 10: ">", 11: ">=", 16: "+", 17: "-", 18: "*", 19: "/"}[t.Kind])
	}
	return l[:len(l)-1]
}

func literalTokens(v api.Value) []string {
	switch v.Kind {
	case api.Bool:
		return []string{[]string{"false", "true"}[v.Num]}
	case api.String:
		return []string{"'" + strings.ReplaceAll(v.Text, "'", "''") + "'"}
	case api.Long:
		digits, minus := strings.CutPrefix(strconv.FormatInt(int64(v.Num), 10), "-")
		if minus {
			return []string{"-\xfe", digits}
		}
		return []string{digits}
	}
	f := math.Float64frombits(v.Num)
	if v.Num>>63 == 1 {
		return []string{"-\xfe", fewest(-f)}
	}
	return []string{fewest(f)}
}

// fewest writes a Double that is not below 0 by trying: of ever more digits the two numbers next to it, until one is read as it; of two that are, the nearer one, and of two as near that with the even last digit.
func fewest(f float64) string {
	if f == 0 {
		return "0e+00"
	}
	exact := new(big.Rat).SetFloat64(f)
	exponent := int(math.Floor(math.Log10(f)))
	for exact.Cmp(scaled(1, exponent+1)) >= 0 {
		exponent++
	}
	for exact.Cmp(scaled(1, exponent)) < 0 {
		exponent--
	}
	for digits := 1; ; digits++ {
		unit := exponent - digits + 1
		count := new(big.Rat).Quo(exact, scaled(1, unit))
		low := new(big.Int).Quo(count.Num(), count.Denom())
		var best *big.Int
		for _, n := range []*big.Int{low, new(big.Int).Add(low, big.NewInt(1))} {
			r := new(big.Rat).Mul(new(big.Rat).SetInt(n), scaled(1, unit))
			if g, _ := r.Float64(); g != f {
				continue
			}
			if best == nil || nearer(count, n, best) {
				best = n
			}
		}
		if best != nil {
			return spelled(best.String(), unit)
		}
	}
}

// nearer tells whether n is nearer to a number than m is, or as near and even.
func nearer(x *big.Rat, n, m *big.Int) bool {
	far := func(n *big.Int) *big.Rat {
		d := new(big.Rat).Sub(x, new(big.Rat).SetInt(n))
		return d.Abs(d)
	}
	order := far(n).Cmp(far(m))
	return order < 0 || order == 0 && n.Bit(0) == 0
}

// scaled is n times a power of ten.
func scaled(n int64, power int) *big.Rat {
	ten := new(big.Rat).SetInt(new(big.Int).Exp(big.NewInt(10), big.NewInt(int64(max(power, -power))), nil))
	if power < 0 {
		ten.Inv(ten)
	}
	return ten.Mul(ten, new(big.Rat).SetInt64(n))
}

// spelled writes digits that are so many units.
func spelled(digits string, unit int) string {
	exponent := unit + len(digits) - 1
	digits = strings.TrimRight(digits, "0")
	if len(digits) > 1 {
		digits = digits[:1] + "." + digits[1:]
	}
	sign, width := "+", strconv.Itoa(max(exponent, -exponent))
	if exponent < 0 {
		sign = "-"
	}
	if len(width) < 2 {
		width = "0" + width
	}
	return digits + "e" + sign + width
}

// said is what a term says: by its sort, "unknown", "truth", "integer", "float", "text", "else".
type said struct {
	sort  string
	truth bool
	exact *big.Rat // of a number
	f     float64  // of a float, with the sign of a zero
	text  string
}

func (s said) number() bool { return s.sort == "integer" || s.sort == "float" }

func integerSaid(n *big.Int) said { return said{sort: "integer", exact: new(big.Rat).SetInt(n)} }

func floatSaid(f float64, instead string) said {
	if math.IsInf(f, 0) || math.IsNaN(f) {
		return said{sort: instead}
	}
	return said{sort: "float", f: f, exact: new(big.Rat).SetFloat64(f)}
}

func truthSaid(b bool) said { return said{sort: "truth", truth: b} }

func modelEval(t api.Term, m api.Message) api.Value {
	if modelCheck(t) != api.OK {
		return api.Value{}
	}
	switch s := modelSays(t, m); s.sort {
	case "truth":
		if s.truth {
			return right
		}
		return wrong
	case "integer":
		return integer(s.exact.Num().Int64())
	case "float":
		return float(s.f)
	case "text":
		if utf8.ValidString(s.text) {
			return words(s.text)
		}
		return sample.Text(api.Binary, s.text)
	}
	return unknown
}

func modelSays(t api.Term, m api.Message) said {
	switch t.Kind {
	case sieve.Literal:
		return valueSays(t.Value)
	case sieve.Name:
		return valueSays(message.Lookup(m, t.Text))
	}
	var kids []said
	for _, kid := range t.Kids {
		kids = append(kids, modelSays(kid, m))
	}
	switch t.Kind {
	case sieve.Not:
		return threeSaid(2 - three(kids[0]))
	case sieve.And:
		return least(kids)
	case sieve.Or:
		return greatest(kids)
	case sieve.Between:
		return least([]said{modelCompare(">=", kids[0], kids[1]), modelCompare("<=", kids[0], kids[2])})
	case sieve.In:
		var each []said
		for _, listed := range kids[1:] {
			each = append(each, modelCompare("=", kids[0], listed))
		}
		return greatest(each)
	case sieve.Fit:
		if kids[0].sort != "text" {
			return said{sort: "unknown"}
		}
		escape := -1
		for _, r := range t.Value.Text {
			escape = int(r)
		}
		return truthSaid(modelLike(kids[0].text, t.Text, escape))
	case sieve.Nothing:
		return truthSaid(kids[0].sort == "unknown")
	case sieve.Negative:
		if kids[0].sort == "float" {
			return floatSaid(math.Float64frombits(math.Float64bits(kids[0].f)^1<<63), "")
		}
		return modelReckon(sieve.Minus, integerSaid(new(big.Int)), kids[0])
	case sieve.Plus, sieve.Minus, sieve.Times, sieve.Over:
		return modelReckon(t.Kind, kids[0], kids[1])
	}
	for sign, kind := range signs {
		if kind == t.Kind {
			return modelCompare(sign, kids[0], kids[1])
		}
	}
	panic("a kind without a meaning")
}

// The three values as numbers: false 0, unknown 1, true 2. So an And is the least of them, an Or the greatest, a Not what is left to 2.
func three(s said) int {
	switch {
	case s.sort != "truth":
		return 1
	case s.truth:
		return 2
	}
	return 0
}

func threeSaid(n int) said {
	if n == 1 {
		return said{sort: "unknown"}
	}
	return truthSaid(n == 2)
}

func least(l []said) said {
	n := 2
	for _, s := range l {
		n = min(n, three(s))
	}
	return threeSaid(n)
}

func greatest(l []said) said {
	n := 0
	for _, s := range l {
		n = max(n, three(s))
	}
	return threeSaid(n)
}

func valueSays(v api.Value) said {
	if value.Check(v) != api.OK {
		return said{sort: "else"}
	}
	switch v.Kind {
	case api.Null:
		return said{sort: "unknown"}
	case api.Bool:
		return truthSaid(v.Num == 1)
	case api.Ubyte, api.Ushort, api.Uint, api.Ulong:
		n := new(big.Int).SetUint64(v.Num)
		if !n.IsInt64() {
			f, _ := new(big.Float).SetPrec(53).SetMode(big.ToNearestEven).SetInt(n).Float64()
			return floatSaid(f, "")
		}
		return integerSaid(n)
	case api.Byte, api.Short, api.Int, api.Long, api.Time:
		return integerSaid(big.NewInt(int64(v.Num)))
	case api.Float:
		return floatSaid(float64(math.Float32frombits(uint32(v.Num))), "else")
	case api.Double:
		return floatSaid(math.Float64frombits(v.Num), "else")
	case api.String, api.Symbol, api.Binary:
		return said{sort: "text", text: v.Text}
	case api.Char:
		return said{sort: "text", text: string([]rune{rune(v.Num)})}
	}
	return said{sort: "else"}
}

func modelCompare(sign string, a, b said) said {
	order := 0
	switch {
	case a.number() && b.number():
		order = a.exact.Cmp(b.exact)
	case a.sort == "text" && b.sort == "text":
		order = slices.Compare([]byte(a.text), []byte(b.text))
	case a.sort == "truth" && b.sort == "truth" && (sign == "=" || sign == "<>"):
		if a.truth != b.truth {
			order = 1
		}
	default:
		return said{sort: "unknown"}
	}
	return truthSaid(strings.Contains(sign, [3]string{"<", "=", ">"}[order+1]))
}

func modelReckon(kind int, a, b said) said {
	if !a.number() || !b.number() || kind == sieve.Over && b.exact.Sign() == 0 {
		return said{sort: "unknown"}
	}
	reckon := func(x, y *big.Rat) *big.Rat {
		r := new(big.Rat)
		switch kind {
		case sieve.Plus:
			return r.Add(x, y)
		case sieve.Minus:
			return r.Sub(x, y)
		case sieve.Times:
			return r.Mul(x, y)
		}
		return r.Quo(x, y)
	}
	if a.sort == "integer" && b.sort == "integer" {
		if r := reckon(a.exact, b.exact); r.IsInt() && r.Num().IsInt64() {
			return integerSaid(r.Num())
		}
	}
	x, y := rounded(a), rounded(b)
	f, _ := reckon(new(big.Rat).SetFloat64(x), new(big.Rat).SetFloat64(y)).Float64()
	if f == 0 {
		// A fraction has no zero with a minus: this is left to the machine.
		f = map[int]float64{sieve.Plus: x + y, sieve.Minus: x - y, sieve.Times: x * y, sieve.Over: x / y}[kind]
	}
	return floatSaid(f, "unknown")
}

func rounded(s said) float64 {
	if s.sort == "float" {
		return s.f
	}
	f, _ := s.exact.Float64()
	return f
}

// modelSigns cuts a text into signs: the shortest beginning that is a character, or a byte.
func modelSigns(s string) []string {
	var l []string
	for s != "" {
		n := 1
		for size := 1; size <= min(4, len(s)); size++ {
			if utf8.ValidString(s[:size]) {
				n = size
				break
			}
		}
		l = append(l, s[:n])
		s = s[n:]
	}
	return l
}

// modelLike knows of each beginning of the text whether it is what each beginning of the pattern stands for.
func modelLike(s, pattern string, escape int) bool {
	type mark struct{ sign, means string }
	var marks []mark
	escaped := ""
	if escape >= 0 && escape <= 0x10ffff && (escape < 0xd800 || escape > 0xdfff) {
		escaped = string([]rune{rune(escape)})
	}
	pieces := modelSigns(pattern)
	for i := 0; i < len(pieces); i++ {
		switch {
		case pieces[i] == escaped && i+1 < len(pieces):
			i++
			marks = append(marks, mark{pieces[i], "itself"})
		case pieces[i] == escaped:
			marks = append(marks, mark{pieces[i], "itself"})
		case pieces[i] == "%" || pieces[i] == "_":
			marks = append(marks, mark{"", pieces[i]})
		default:
			marks = append(marks, mark{pieces[i], "itself"})
		}
	}
	texts := modelSigns(s)
	now := make([]bool, len(texts)+1)
	now[0] = true
	for _, m := range marks {
		then := make([]bool, len(texts)+1)
		for n := range then {
			switch {
			case m.means == "%":
				then[n] = now[n] || n > 0 && then[n-1]
			case m.means == "_":
				then[n] = n > 0 && now[n-1]
			default:
				then[n] = n > 0 && now[n-1] && texts[n-1] == m.sign
			}
		}
		now = then
	}
	return now[len(texts)]
}
