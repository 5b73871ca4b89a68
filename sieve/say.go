package sieve

import (
	"cmp"
	"math"
	"strings"

	"longshore/api"
	"longshore/message"
	"longshore/octet"
	"longshore/value"
)

// Eval is what a filter says of a message (Null: unknown).
func Eval(t api.Term, m api.Message) api.Value {
	if Check(t) != api.OK {
		return api.Value{}
	}
	return say(t, m).told()
}

// Fits tells whether a message fits a filter.
func Fits(t api.Term, m api.Message) bool {
	v := Eval(t, m)
	return v.Kind == api.Bool && v.Num == 1
}

// saying is what a term says of a message: one of the six types below.
type saying interface {
	// told is the value by which it is told.
	told() api.Value
}

type (
	unknown struct{}
	truth   bool
	integer int64
	float   float64
	text    string
	// other is something else: it is known, but nothing can be done with it.
	other struct{}
)

func (unknown) told() api.Value { return api.Value{} }

func (other) told() api.Value { return api.Value{} }

func (x truth) told() api.Value {
	v := api.Value{Kind: api.Bool}
	if x {
		v.Num = 1
	}
	return v
}

func (x integer) told() api.Value { return api.Value{Kind: api.Long, Num: uint64(x)} }

func (x float) told() api.Value {
	return api.Value{Kind: api.Double, Num: math.Float64bits(float64(x))}
}

func (x text) told() api.Value {
	v := api.Value{Kind: api.String, Text: strings.Clone(string(x))}
	if octet.Utf8(v.Text) >= 0 {
		v.Kind = api.Binary
	}
	return v
}

// say is what a term that may be says of a message.
func say(t api.Term, m api.Message) saying {
	switch t.Kind {
	case Literal:
		return meant(t.Value)
	case Name:
		return meant(message.Lookup(m, t.Text))
	}
	kids := make([]saying, len(t.Kids))
	for i, kid := range t.Kids {
		kids[i] = say(kid, m)
	}
	return joined(t, kids)
}

// joined is what a term says whose Kids say this.
func joined(t api.Term, kids []saying) saying {
	switch t.Kind {
	case Not:
		return not(kids[0])
	case And:
		return decided(kids, false)
	case Or:
		return decided(kids, true)
	case Between:
		return decided([]saying{compared(MoreOrSame, kids[0], kids[1]), compared(LessOrSame, kids[0], kids[2])}, false)
	case In:
		return oneOf(kids[0], kids[1:])
	case Fit:
		return fit(kids[0], t)
	case Nothing:
		_, is := kids[0].(unknown)
		return truth(is)
	case Plus, Minus, Times, Over:
		return reckoned(t.Kind, kids[0], kids[1])
	case Negative:
		return negative(kids[0])
	}
	return compared(t.Kind, kids[0], kids[1])
}

// meant is what a value says.
func meant(v api.Value) saying {
	switch v.Kind {
	case api.List, api.Map, api.Array, api.Described:
		// Whether such a value may be makes no difference, and to find out might take long.
		return other{}
	}
	if value.Check(v) != api.OK {
		return other{}
	}
	switch v.Kind {
	case api.Null:
		return unknown{}
	case api.Bool:
		return truth(v.Num == 1)
	case api.Ulong:
		if v.Num > math.MaxInt64 {
			return float(v.Num)
		}
		return integer(v.Num)
	case api.Ubyte, api.Ushort, api.Uint, api.Byte, api.Short, api.Int, api.Long, api.Time:
		return integer(v.Num)
	case api.Float:
		return finite(float64(math.Float32frombits(uint32(v.Num))), other{})
	case api.Double:
		return finite(math.Float64frombits(v.Num), other{})
	case api.String, api.Symbol, api.Binary:
		return text(v.Text)
	case api.Char:
		return text(string(rune(v.Num)))
	}
	return other{}
}

// finite is a float, or what is said instead if it is not finite.
func finite(f float64, instead saying) saying {
	if isFinite(f) {
		return float(f)
	}
	return instead
}

func not(a saying) saying {
	switch x := a.(type) {
	case truth:
		return !x
	default:
		return unknown{}
	}
}

// decided is the truth that decides, if one of the sayings is that; else unknown, if one is no truth; else the other truth. (False decides an And, true an Or.)
func decided(l []saying, decides truth) saying {
	var all saying = !decides
	for _, a := range l {
		switch x := a.(type) {
		case truth:
			if x == decides {
				return decides
			}
		default:
			all = unknown{}
		}
	}
	return all
}

// oneOf is the Or of whether something is the same as each of a list.
func oneOf(a saying, l []saying) saying {
	each := make([]saying, len(l))
	for i, b := range l {
		each[i] = compared(Same, a, b)
	}
	return decided(each, true)
}

// fit is what a Fit says of a text.
func fit(a saying, t api.Term) saying {
	switch x := a.(type) {
	case text:
		escape, _ := escapeIn(t.Value)
		return truth(Like(string(x), t.Text, escape))
	default:
		return unknown{}
	}
}

// compared is what a comparison by one of the six signs says.
func compared(kind int, a, b saying) saying {
	order, sorted, is := stand(a, b)
	switch {
	case !is:
		return unknown{}
	case kind == Same:
		return truth(order == 0)
	case kind == Unlike:
		return truth(order != 0)
	case !sorted:
		return unknown{}
	case kind == Less:
		return truth(order < 0)
	case kind == LessOrSame:
		return truth(order <= 0)
	case kind == More:
		return truth(order > 0)
	}
	return truth(order >= 0)
}

// stand is how two sayings stand, 0 if they are the same; whether one can be ahead of the other (truths can't); whether they can be held against each other at all.
func stand(a, b saying) (order int, sorted, is bool) {
	switch x := a.(type) {
	case truth:
		if y, both := b.(truth); both {
			if x != y {
				order = 1
			}
			return order, false, true
		}
	case text:
		if y, both := b.(text); both {
			return strings.Compare(string(x), string(y)), true, true
		}
	case integer:
		switch y := b.(type) {
		case integer:
			return cmp.Compare(x, y), true, true
		case float:
			return against(int64(x), float64(y)), true, true
		}
	case float:
		switch y := b.(type) {
		case integer:
			return -against(int64(y), float64(x)), true, true
		case float:
			return cmp.Compare(x, y), true, true
		}
	}
	return 0, false, false
}
