package note

import (
	"strconv"

	"longshore/api"
	"longshore/octet"
	"longshore/value"
)

// parser reads a text from the place at on.
type parser struct {
	text string
	at   int
}

// whole reads a value behind which nothing stands.
func (p *parser) whole() (api.Value, *fault) {
	v, f := p.value(1)
	if f != nil {
		return api.Value{}, f
	}
	rest, f := p.take()
	if f == nil && rest.kind != endToken {
		f = &fault{rest.at, api.ErrRest}
	}
	return v, f
}

// value reads a value that must begin here, at a depth.
func (p *parser) value(depth int) (api.Value, *fault) {
	first, f := p.take()
	if f != nil {
		return api.Value{}, f
	}
	kind, is := kindFrom(first)
	switch {
	case !is && first.kind == endToken && depth == 1:
		return api.Value{}, &fault{first.at, api.ErrNote}
	case !is:
		return api.Value{}, misplaced(first)
	case depth > api.MaxDepth:
		return api.Value{}, &fault{first.at, api.ErrDeep}
	}
	return p.valueFrom(first, kind, depth)
}

// valueFrom reads on behind the first token of a value.
func (p *parser) valueFrom(first token, kind, depth int) (v api.Value, f *fault) {
	v.Kind = kind
	switch kind {
	case api.Null:
	case api.Bool:
		if first.text == "true" {
			v.Num = 1
		}
	case api.Float, api.Dec32, api.Double, api.Dec64, api.Dec128, api.Uuid:
		v.Num, v.Text, f = p.bits(kind)
	case api.String:
		v.Text, f = textOf(kind, first)
	case api.Binary, api.Symbol:
		v.Text, f = p.word(kind)
	case api.List:
		v.List, f = p.elements(api.AnyValue, depth)
	case api.Map:
		v.List, f = p.pairs(first.at, depth)
	case api.Array:
		v.Elem, v.List, f = p.array(depth)
	case api.Described:
		v.List, f = p.described(depth)
	default:
		v.Num, f = p.integer(kind)
	}
	return v, f
}

// kindFrom is the kind of the value that begins with a token; false: none does.
func kindFrom(t token) (int, bool) {
	switch t.kind {
	case wordToken:
		return api.String, true
	case '[':
		return api.List, true
	case '{':
		return api.Map, true
	case '(':
		return api.Described, true
	}
	if t.kind == nameToken && (t.text == "true" || t.text == "false") {
		return api.Bool, true
	}
	kind, is := kindNamed(t)
	switch kind {
	case api.Bool, api.String, api.List, api.Map, api.Described:
		return 0, false
	}
	return kind, is
}

// kindNamed is the kind whose name a token is; false: it is none's.
func kindNamed(t token) (int, bool) {
	if t.kind != nameToken {
		return 0, false
	}
	for kind, name := range names {
		if name == t.text {
			return kind, true
		}
	}
	return 0, false
}

// integer reads the number of a kind.
func (p *parser) integer(kind int) (uint64, *fault) {
	t, f := p.take()
	if f != nil {
		return 0, f
	}
	n := uint64(0)
	if isSigned(kind) {
		signed, _ := strconv.ParseInt(t.text, 10, 64)
		n = uint64(signed)
	} else {
		n, _ = strconv.ParseUint(t.text, 10, 64)
	}
	// An integer is written in one way: what is none, or does not fit, is not what its number is written as.
	v := api.Value{Kind: kind, Num: n}
	if t.kind != nameToken || integerOf(v) != t.text || value.Check(v) != api.OK {
		return 0, &fault{t.at, api.ErrDigits}
	}
	return n, nil
}

// bits reads the digits of a kind: its number, or its bytes.
func (p *parser) bits(kind int) (uint64, string, *fault) {
	t, f := p.take()
	if f != nil {
		return 0, "", f
	}
	width := bitsWidth(kind)
	b := bytesOf(t.text)
	if t.kind != nameToken || len(b) != width {
		return 0, "", &fault{t.at, api.ErrDigits}
	}
	if width == bitsInText {
		return 0, string(b), nil
	}
	n, _ := octet.Get(b, 0, width)
	return n, "", nil
}

// word reads a word in quotes that must stand here.
func (p *parser) word(kind int) (string, *fault) {
	t, f := p.take()
	if f != nil {
		return "", f
	}
	if t.kind != wordToken {
		return "", &fault{t.at, api.ErrQuote}
	}
	return textOf(kind, t)
}

// textOf is what a word says, if a value of the kind may have it.
func textOf(kind int, t token) (string, *fault) {
	if e := value.Check(api.Value{Kind: kind, Text: t.text}); e != api.OK {
		return "", &fault{t.at, e}
	}
	return t.text, nil
}
