package note_test

import (
	"fmt"
	"math/big"
	"regexp"
	"slices"
	"strconv"
	"strings"
	"unicode/utf8"

	"longshore/api"
)

// What the chapter says, once more and in another way, for the tests to hold the program against: words by regular expressions, a value's text put together from its parts' texts, and a reader that has a stack of what is open instead of functions that call one another.

var kindNames = strings.Fields("null bool ubyte ushort uint ulong byte short int long float double dec32 dec64 dec128 char time uuid binary string symbol list map array described")

// characters is chapter 1's table, in regular expressions over bytes that are written as two digits each.
var characters = regexp.MustCompile(`^(?:[0-7].|(?:c[2-9a-f]|d.)[89ab].|e0[ab].[89ab].|(?:e[1-9a-c])[89ab].[89ab].|ed[89].[89ab].|e[ef][89ab].[89ab].|f0[9ab].[89ab].[89ab].|f[1-3][89ab].[89ab].[89ab].|f48.[89ab].[89ab].)`)

// pieceLength is how many bytes the first piece of s has, and whether it is a character.
func pieceLength(s string) (int, bool) {
	digits := fmt.Sprintf("%x", s[:min(len(s), 4)])
	if n := len(characters.FindString(digits)) / 2; n > 0 {
		return n, true
	}
	return 1, false
}

// refQuote is what Quote must answer.
func refQuote(s string) string {
	var out strings.Builder
	out.WriteString("\x22")
	for len(s) > 0 {
		n, is := pieceLength(s)
		point := 0
		if is {
			point = int([]rune(s[:n])[0])
		}
		switch {
		case s[0] == 0x22 || s[0] == 0x5c:
			out.WriteString("\x5c" + s[:1])
		case s[0] == 0x0a:
			out.WriteString("\x5cn")
		case s[0] >= 0x20 && s[0] <= 0x7e || point >= 0xa0:
			out.WriteString(s[:n])
		default:
			for i := range n {
				fmt.Fprintf(&out, "\\x%02x", s[i])
			}
		}
		s = s[n:]
	}
	return out.String() + "\x22"
}

// words is a word in quotes; of one that it finds the bytes must still be a text.
var (
	words   = regexp.MustCompile(`^"(?:[^"\\\x00-\x1f]|\\["\\n]|\\x[0-9a-fA-F][0-9a-fA-F])*"`)
	escapes = regexp.MustCompile(`\\(?:x..|.)`)
)

// refWord is the word with which s begins, and what it says.
func refWord(s string) (word, said string, is bool) {
	word = words.FindString(s)
	if word == "" || !utf8.ValidString(word) {
		return "", "", false
	}
	said = escapes.ReplaceAllStringFunc(word[1:len(word)-1], func(e string) string {
		switch e[1] {
		case 'n':
			return "\n"
		case 'x':
			n, _ := new(big.Int).SetString(e[2:], 16)
			return string([]byte{byte(n.Int64())})
		}
		return e[1:]
	})
	return word, said, true
}

// refUnquote is what Unquote must answer.
func refUnquote(s string) (string, bool) {
	word, said, is := refWord(s)
	if !is || word != s {
		return "", false
	}
	return said, true
}

// refPrint is the text of a value that may be.
func refPrint(v api.Value) string {
	name := kindNames[v.Kind] + " "
	var parts []string
	for _, part := range v.List {
		parts = append(parts, refPrint(part))
	}
	spaced := strings.Join(parts, " ")
	switch v.Kind {
	case api.Null:
		return "null"
	case api.Bool:
		return []string{"false", "true"}[v.Num]
	case api.Byte, api.Short, api.Int, api.Long, api.Time:
		return name + fmt.Sprint(int64(v.Num))
	case api.Float, api.Dec32:
		return name + fmt.Sprintf("%08x", v.Num)
	case api.Double, api.Dec64:
		return name + fmt.Sprintf("%016x", v.Num)
	case api.Dec128, api.Uuid:
		return name + fmt.Sprintf("%x", v.Text)
	case api.Binary, api.Symbol:
		return name + refQuote(v.Text)
	case api.String:
		return refQuote(v.Text)
	case api.List:
		return "[" + spaced + "]"
	case api.Map:
		var both []string
		for pair := range slices.Chunk(parts, 2) {
			both = append(both, pair[0]+": "+pair[1])
		}
		return "{" + strings.Join(both, ", ") + "}"
	case api.Array:
		return name + kindNames[v.Elem] + " [" + spaced + "]"
	case api.Described:
		return "(" + spaced + ")"
	}
	return name + fmt.Sprint(v.Num)
}

// refToken is a token: "name", "word", "sign", "end", "broken" (a quotation mark with which no word begins) or "bad" (another byte with which no token begins).
type refToken struct {
	kind, text string
	at         int
}

var (
	between    = regexp.MustCompile(`^(?:[ \t\n\r]|#[^\n]*(?:\n|$))*`)
	namesFound = regexp.MustCompile(`^[a-z0-9-]+`)
)

func refTokens(s string) []refToken {
	var all []refToken
	for at := 0; ; {
		at += len(between.FindString(s[at:]))
		rest := s[at:]
		if rest == "" {
			return append(all, refToken{"end", "", at})
		}
		t := refToken{"bad", rest[:1], at}
		length := 1
		if name := namesFound.FindString(rest); name != "" {
			t, length = refToken{"name", name, at}, len(name)
		} else if strings.Contains("[]{}():,", rest[:1]) {
			t.kind = "sign"
		} else if word, said, is := refWord(rest); is {
			t, length = refToken{"word", said, at}, len(word)
		} else if rest[0] == '"' {
			return append(all, refToken{"broken", "", at})
		}
		all = append(all, t)
		at += length
	}
}

// refOpen is a value that is not yet closed. want says what may stand next: 'v' a value, or the signs themselves.
type refOpen struct {
	v         api.Value
	at        int
	want      string
	elementAt int
}

// refReader goes over the tokens.
type refReader struct {
	tokens []refToken
	open   []*refOpen
}

func (r *refReader) next() refToken {
	t := r.tokens[0]
	if len(r.tokens) > 1 {
		r.tokens = r.tokens[1:]
	}
	return t
}

// refParse is what Parse must answer.
func refParse(s string) (api.Value, int, api.Errno) {
	if len(s) > 1048576 {
		return api.Value{}, 0, api.ErrLong
	}
	r := &refReader{tokens: refTokens(s)}
	v, place, e := r.read()
	if e != api.OK {
		return api.Value{}, place, e
	}
	switch t := r.next(); t.kind {
	case "end":
		return v, 0, api.OK
	case "broken":
		return api.Value{}, t.at, api.ErrQuote
	default:
		return api.Value{}, t.at, api.ErrRest
	}
}

// read goes on until a value is whole that stands in no other one.
func (r *refReader) read() (api.Value, int, api.Errno) {
	for {
		want := "v"
		var top *refOpen
		if len(r.open) > 0 {
			top = r.open[len(r.open)-1]
			want = top.want
		}
		t := r.next()
		var done *api.Value
		var place int
		var e api.Errno
		switch {
		case t.kind == "broken":
			return api.Value{}, t.at, api.ErrQuote
		case t.kind == "sign" && strings.Contains(want, t.text):
			done, place, e = r.sign(t)
		case strings.Contains(want, "v"):
			done, place, e = r.begin(t)
		default:
			place, e = r.amiss(t)
		}
		for e == api.OK && done != nil {
			if len(r.open) == 0 {
				return *done, 0, api.OK
			}
			done, place, e = r.part(*done)
		}
		if e != api.OK {
			return api.Value{}, place, e
		}
	}
}

func (r *refReader) amiss(t refToken) (int, api.Errno) {
	if t.kind == "end" && len(r.open) > 0 || t.kind == "sign" && strings.Contains("]})", t.text) {
		return t.at, api.ErrClose
	}
	return t.at, api.ErrNote
}

// part lays a value that is whole into the one in which it stands.
func (r *refReader) part(v api.Value) (*api.Value, int, api.Errno) {
	top := r.open[len(r.open)-1]
	top.v.List = append(top.v.List, v)
	switch top.v.Kind {
	case api.Array:
		if v.Kind != top.v.Elem {
			return nil, top.elementAt, api.ErrArray
		}
	case api.Map:
		top.want = []string{",}", ":"}[len(top.v.List)%2]
	case api.Described:
		top.want = []string{"", "v", ")"}[len(top.v.List)]
	}
	return nil, 0, api.OK
}

// sign takes a sign that may stand there.
func (r *refReader) sign(t refToken) (*api.Value, int, api.Errno) {
	top := r.open[len(r.open)-1]
	if t.text == ":" || t.text == "," {
		top.want = "v"
		return nil, 0, api.OK
	}
	r.open = r.open[:len(r.open)-1]
	if top.v.Kind == api.Map {
		seen := map[string]bool{}
		for i := 0; i < len(top.v.List); i += 2 {
			seen[written(top.v.List[i])] = true
		}
		if 2*len(seen) < len(top.v.List) || len(seen) > 1024 {
			return nil, top.at, api.ErrMap
		}
	}
	return &top.v, 0, api.OK
}

// begin takes the first token of a value, and all of it if it has no parts.
func (r *refReader) begin(t refToken) (*api.Value, int, api.Errno) {
	kind := -1
	switch {
	case t.kind == "word":
		kind = api.String
	case t.kind == "sign":
		kind = map[string]int{"[": api.List, "{": api.Map, "(": api.Described}[t.text] // 0 where there is none
	case t.kind == "name" && (t.text == "true" || t.text == "false"):
		kind = api.Bool
	case t.kind == "name" && !slices.Contains([]string{"bool", "string", "list", "map", "described"}, t.text):
		kind = slices.Index(kindNames, t.text)
	}
	if kind < 0 || t.kind == "sign" && kind == 0 {
		place, e := r.amiss(t)
		return nil, place, e
	}
	if len(r.open)+1 > 32 {
		return nil, t.at, api.ErrDeep
	}
	if len(r.open) > 0 {
		r.open[len(r.open)-1].elementAt = t.at
	}
	v := api.Value{Kind: kind}
	switch kind {
	case api.Null:
		return &v, 0, api.OK
	case api.Bool:
		v.Num = map[string]uint64{"true": 1}[t.text]
		return &v, 0, api.OK
	case api.String:
		return r.said(v, t)
	case api.List, api.Map, api.Described:
		r.open = append(r.open, &refOpen{v: v, at: t.at, want: map[int]string{api.List: "v]", api.Map: "v}", api.Described: "v"}[kind]})
		return nil, 0, api.OK
	case api.Array:
		return r.array(v)
	}
	behind := r.next()
	if behind.kind == "broken" {
		return nil, behind.at, api.ErrQuote
	}
	if kind == api.Binary || kind == api.Symbol {
		if behind.kind != "word" {
			return nil, behind.at, api.ErrQuote
		}
		return r.said(v, behind)
	}
	return digits(v, behind)
}

func (r *refReader) said(v api.Value, t refToken) (*api.Value, int, api.Errno) {
	v.Text = t.text
	if v.Kind == api.String && !utf8.ValidString(t.text) || v.Kind == api.Symbol && strings.ContainsFunc(t.text, func(c rune) bool { return c > 127 }) {
		return nil, t.at, api.ErrText
	}
	return &v, 0, api.OK
}

func (r *refReader) array(v api.Value) (*api.Value, int, api.Errno) {
	elem, bracket := r.next(), refToken{}
	if elem.kind == "broken" {
		return nil, elem.at, api.ErrQuote
	}
	if elem.kind == "name" && (elem.text == "null" || elem.text == "described") {
		return nil, elem.at, api.ErrArray
	}
	v.Elem = slices.Index(kindNames, elem.text)
	if elem.kind != "name" || v.Elem < 0 {
		return nil, elem.at, api.ErrNote
	}
	if bracket = r.next(); bracket.kind == "broken" {
		return nil, bracket.at, api.ErrQuote
	}
	if bracket.kind != "sign" || bracket.text != "[" {
		return nil, bracket.at, api.ErrNote
	}
	r.open = append(r.open, &refOpen{v: v, want: "v]"})
	return nil, 0, api.OK
}

// The kinds' least and greatest numbers.
var limits = map[int][2]string{
	api.Ubyte: {"0", "255"}, api.Ushort: {"0", "65535"}, api.Uint: {"0", "4294967295"}, api.Ulong: {"0", "18446744073709551615"},
	api.Byte: {"-128", "127"}, api.Short: {"-32768", "32767"}, api.Int: {"-2147483648", "2147483647"},
	api.Long: {"-9223372036854775808", "9223372036854775807"}, api.Time: {"-9223372036854775808", "9223372036854775807"},
	api.Char: {"0", "1114111"},
}

var hexDigits = map[int]int{api.Float: 8, api.Dec32: 8, api.Double: 16, api.Dec64: 16, api.Dec128: 32, api.Uuid: 32}

var (
	integers = regexp.MustCompile(`^(?:0|-?[1-9][0-9]*)$`)
	hexes    = regexp.MustCompile(`^[0-9a-f]*$`)
)

// bigNumber is the number that digits are.
func bigNumber(digits string, base int) *big.Int {
	n, is := new(big.Int).SetString(digits, base)
	if !is {
		panic("no number: " + strconv.Quote(digits))
	}
	return n
}

// digits takes an integer, or hexadecimal digits.
func digits(v api.Value, t refToken) (*api.Value, int, api.Errno) {
	no := func() (*api.Value, int, api.Errno) { return nil, t.at, api.ErrDigits }
	count, isHex := hexDigits[v.Kind]
	if isHex {
		if t.kind != "name" || !hexes.MatchString(t.text) || len(t.text) != count {
			return no()
		}
		if count == 32 {
			v.Text = string(bigNumber(t.text, 16).FillBytes(make([]byte, 16)))
		} else {
			v.Num = bigNumber(t.text, 16).Uint64()
		}
		return &v, 0, api.OK
	}
	if t.kind != "name" || !integers.MatchString(t.text) {
		return no()
	}
	n := bigNumber(t.text, 10)
	if n.Cmp(bigNumber(limits[v.Kind][0], 10)) < 0 || n.Cmp(bigNumber(limits[v.Kind][1], 10)) > 0 {
		return no()
	}
	if v.Kind == api.Char && n.Int64() >= 0xd800 && n.Int64() <= 0xdfff {
		return no()
	}
	v.Num = n.Uint64()
	if n.Sign() < 0 {
		v.Num = uint64(n.Int64())
	}
	return &v, 0, api.OK
}
