package sieve

import (
	"math"
	"strconv"
	"strings"

	"longshore/api"
)

// Parse reads a filter: it, the place of the fault.
func Parse(text string) (api.Term, int, api.Errno) {
	if len(text) > api.MaxText {
		return api.Term{}, 0, api.ErrLong
	}
	p := parser{text: text}
	p.read()
	t := p.or()
	if p.next.kind != endToken {
		p.misplaced()
	}
	switch {
	case p.fault != api.OK:
		return api.Term{}, p.at, p.fault
	case counted(t, api.MaxRules+1) > api.MaxRules:
		return api.Term{}, 0, api.ErrTerms
	}
	return t, 0, api.OK
}

// parser reads a text token by token. Behind its first fault, which it keeps with its place, it stands at the end of the text for good: so whatever is asked for then leads out of the grammar, and no call needs to hand on a fault.
type parser struct {
	text   string
	next   token
	behind int
	at     int
	fault  api.Errno
}

// read goes on to the next token.
func (p *parser) read() {
	if p.fault == api.OK {
		p.next, p.behind = tokenAt(p.text, p.behind)
	}
}

// fail keeps a fault, if it is the first one.
func (p *parser) fail(at int, e api.Errno) {
	if p.fault == api.OK {
		p.at, p.fault = at, e
		p.next = token{kind: endToken}
	}
}

// misplaced says of the next token that it may not stand there.
func (p *parser) misplaced() { p.fail(p.next.at, api.ErrSieve) }

// took goes on behind the next token, if it is this fixed one.
func (p *parser) took(fixed string) bool {
	is := p.next.kind == fixedToken && p.next.text == fixed
	if is {
		p.read()
	}
	return is
}

// tookOf goes on behind the next token, if it is one of these fixed ones: its kind of term.
func (p *parser) tookOf(kinds ...int) (int, bool) {
	for _, kind := range kinds {
		if p.took(tokenOf(kind)) {
			return kind, true
		}
	}
	return 0, false
}

// need goes on behind the next token, which must be this fixed one.
func (p *parser) need(fixed string) {
	if !p.took(fixed) {
		p.misplaced()
	}
}

// tokenOf is the token that stands between the Kids of a kind: And to MoreOrSame, Plus to Over.
func tokenOf(kind int) string {
	switch kind {
	case And:
		return "and"
	case Or:
		return "or"
	case Same:
		return "="
	case Unlike:
		return "<>"
	case Less:
		return "<"
	case LessOrSame:
		return "<="
	case More:
		return ">"
	case MoreOrSame:
		return ">="
	case Plus:
		return "+"
	case Minus:
		return "-"
	case Times:
		return "*"
	}
	return "/"
}

func (p *parser) or() api.Term { return p.several(Or, p.and) }

func (p *parser) and() api.Term { return p.several(And, p.not) }

// several reads one or more terms with the token of a kind between them: that one, or all as one of the kind.
func (p *parser) several(kind int, one func() api.Term) api.Term {
	kids := []api.Term{one()}
	for p.took(tokenOf(kind)) {
		kids = append(kids, one())
	}
	if len(kids) == 1 {
		return kids[0]
	}
	return api.Term{Kind: kind, Kids: kids}
}

func (p *parser) not() api.Term {
	if p.took("not") {
		return term(Not, p.not())
	}
	return p.comparison()
}

func term(kind int, kids ...api.Term) api.Term { return api.Term{Kind: kind, Kids: kids} }

func (p *parser) comparison() api.Term {
	left := p.sum()
	if kind, is := p.tookOf(Same, Unlike, Less, LessOrSame, More, MoreOrSame); is {
		return term(kind, left, p.sum())
	}
	if p.took("is") {
		not := p.took("not")
		p.need("null")
		return turned(not, term(Nothing, left))
	}
	not := p.took("not")
	switch {
	case p.took("between"):
		from := p.sum()
		p.need("and")
		return turned(not, term(Between, left, from, p.sum()))
	case p.took("in"):
		return turned(not, p.in(left))
	case p.took("like"):
		return turned(not, p.like(left))
	case not:
		p.misplaced()
	}
	return left
}

// turned is a term, or the Not of it.
func turned(not bool, t api.Term) api.Term {
	if not {
		return term(Not, t)
	}
	return t
}

func (p *parser) sum() api.Term { return p.pairs(p.product, Plus, Minus) }

func (p *parser) product() api.Term { return p.pairs(p.unary, Times, Over) }

// pairs reads one or more terms with tokens of these kinds between them, taken from the left.
func (p *parser) pairs(one func() api.Term, kinds ...int) api.Term {
	left := one()
	for kind, is := p.tookOf(kinds...); is; kind, is = p.tookOf(kinds...) {
		left = term(kind, left, one())
	}
	return left
}

func (p *parser) unary() api.Term {
	switch {
	case p.took("-"):
		return term(Negative, p.unary())
	case p.took("("):
		t := p.or()
		p.need(")")
		return t
	case p.next.kind == nameToken:
		return p.name()
	}
	return p.literal(false)
}

func (p *parser) name() api.Term {
	t := api.Term{Kind: Name, Text: p.next.text}
	if !isName(t.Text) {
		p.fail(p.next.at, api.ErrOperand)
	}
	p.read()
	return t
}

// literal reads a literal that must stand here, a number perhaps behind a listed minus.
func (p *parser) literal(minus bool) api.Term {
	switch {
	case p.next.kind == numberToken:
		return literal(p.number(minus))
	case p.next.kind == textToken:
		return literal(api.Value{Kind: api.String, Text: p.quotation()})
	case p.took("true"):
		return literal(api.Value{Kind: api.Bool, Num: 1})
	case p.took("false"):
		return literal(api.Value{Kind: api.Bool})
	}
	p.misplaced()
	return api.Term{}
}

func literal(v api.Value) api.Term { return api.Term{Kind: Literal, Value: v} }

// number reads the number that stands here.
func (p *parser) number(minus bool) api.Value {
	read := long
	if strings.ContainsAny(p.next.text, ".eE") {
		read = double
	}
	v, is := read(p.next.text, minus)
	if !is {
		p.fail(p.next.at, api.ErrOperand)
	}
	p.read()
	return v
}

// long is the Long that digits say; false: it is too great.
func long(digits string, minus bool) (api.Value, bool) {
	n, err := strconv.ParseUint(digits, 10, 64)
	if minus {
		return api.Value{Kind: api.Long, Num: -n}, err == nil && n <= -math.MinInt64
	}
	return api.Value{Kind: api.Long, Num: n}, err == nil && n <= math.MaxInt64
}

// double is the Double that is nearest to what digits say; false: it is not finite.
func double(digits string, minus bool) (api.Value, bool) {
	f, err := strconv.ParseFloat(digits, 64)
	if minus {
		f = turnedSign(f)
	}
	return api.Value{Kind: api.Double, Num: math.Float64bits(f)}, err == nil
}

// quotation reads the text that must stand here: what it says.
func (p *parser) quotation() string {
	text := p.next.text
	switch {
	case p.next.kind != textToken:
		p.misplaced()
	case !isText(text):
		p.fail(p.next.at, api.ErrOperand)
	}
	p.read()
	return text
}

// in reads on behind "in".
func (p *parser) in(left api.Term) api.Term {
	p.need("(")
	kids := []api.Term{left, p.listed()}
	for p.took(",") {
		kids = append(kids, p.listed())
	}
	p.need(")")
	return api.Term{Kind: In, Kids: kids}
}

func (p *parser) listed() api.Term {
	minus := p.took("-")
	if minus && p.next.kind != numberToken {
		p.misplaced()
	}
	return p.literal(minus)
}

// like reads on behind "like".
func (p *parser) like(left api.Term) api.Term {
	t := api.Term{Kind: Fit, Kids: []api.Term{left}}
	at := p.next.at
	t.Text = p.quotation()
	if !p.took("escape") {
		return t
	}
	escapeAt := p.next.at
	t.Value = api.Value{Kind: api.String, Text: p.quotation()}
	switch escape, is := escapeOf(t.Value.Text); {
	case !is:
		p.fail(escapeAt, api.ErrOperand)
	case endsOpen(t.Text, escape):
		p.fail(at, api.ErrOperand)
	}
	return t
}
