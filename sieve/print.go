package sieve

import (
	"math"
	"strconv"

	"longshore/api"
)

// Print writes a filter.
func Print(t api.Term) (string, api.Errno) {
	if e := Check(t); e != api.OK {
		return "", e
	}
	var p page
	p.term(t)
	if len(p.text) > api.MaxText {
		return "", api.ErrLong
	}
	return string(p.text), api.OK
}

// page is what tokens are written on, with a blank between two of them where one stands.
type page struct {
	text []byte
	// close: the next token stands right behind the last one.
	close bool
}

// put writes tokens; what is too long as it is grows no further.
func (p *page) put(tokens ...string) {
	for _, token := range tokens {
		if len(p.text) > api.MaxText {
			return
		}
		if len(p.text) > 0 && !p.close && token != ")" && token != "," {
			p.text = append(p.text, ' ')
		}
		p.text = append(p.text, token...)
		p.close = token == "("
	}
}

// minus writes the minus of a Negative or of a listed number.
func (p *page) minus() {
	p.put("-")
	p.close = true
}

func (p *page) term(t api.Term) {
	switch t.Kind {
	case Literal:
		p.literal(t.Value)
	case Name:
		p.name(t.Text)
	case Not:
		p.put("not")
		p.kid(t, 0)
	case Negative:
		p.minus()
		p.kid(t, 0)
	case Between:
		p.kid(t, 0)
		p.put("between")
		p.kid(t, 1)
		p.put("and")
		p.kid(t, 2)
	case In:
		p.in(t)
	case Fit:
		p.fit(t)
	case Nothing:
		p.kid(t, 0)
		p.put("is", "null")
	default:
		p.row(t)
	}
}

// row writes the Kids of a term with its token between them.
func (p *page) row(t api.Term) {
	p.kid(t, 0)
	for i := 1; i < len(t.Kids); i++ {
		p.put(tokenOf(t.Kind))
		p.kid(t, i)
	}
}

func (p *page) in(t api.Term) {
	p.kid(t, 0)
	p.put("in", "(")
	for i, listed := range t.Kids[1:] {
		if i > 0 {
			p.put(",")
		}
		p.literal(listed.Value)
	}
	p.put(")")
}

func (p *page) fit(t api.Term) {
	p.kid(t, 0)
	p.put("like", quoted(t.Text, "'"))
	if t.Value.Kind == api.String {
		p.put("escape", quoted(t.Value.Text, "'"))
	}
}

func (p *page) name(name string) {
	if isWord(name) {
		p.put(name)
	} else {
		p.put(quoted(name, "\""))
	}
}

func (p *page) literal(v api.Value) {
	switch v.Kind {
	case api.Bool:
		p.put(strconv.FormatBool(v.Num == 1))
	case api.Long:
		n := v.Num
		if int64(n) < 0 {
			p.minus()
			n = -n
		}
		p.put(strconv.FormatUint(n, 10))
	case api.Double:
		f := math.Float64frombits(v.Num)
		if math.Signbit(f) {
			p.minus()
		}
		p.put(strconv.FormatFloat(math.Abs(f), 'e', -1, 64))
	case api.String:
		p.put(quoted(v.Text, "'"))
	}
}

// kid writes a Kid of a term, in brackets where it binds less than what is read in its place.
func (p *page) kid(t api.Term, i int) {
	kid := t.Kids[i]
	if binding(kid.Kind) >= asked(t.Kind, i) {
		p.term(kid)
		return
	}
	p.put("(")
	p.term(kid)
	p.put(")")
}

// binding is how close a kind binds its Kids: the deeper its rule stands in the grammar, the closer.
func binding(kind int) int {
	switch kind {
	case Or:
		return 1
	case And:
		return 2
	case Not:
		return 3
	case Plus, Minus:
		return 5
	case Times, Over:
		return 6
	case Literal, Name, Negative:
		return 7
	}
	return 4
}

// asked is how close a Kid must bind to stand in its place without brackets.
func asked(kind, i int) int {
	switch kind {
	case Not, Negative:
		return binding(kind)
	case Plus, Minus, Times, Over:
		if i == 0 {
			return binding(kind)
		}
	}
	return binding(kind) + 1
}
