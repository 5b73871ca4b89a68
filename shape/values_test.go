package shape_test

import (
	"longshore/api"
	"longshore/sample"
)

// suiting are values that suit a field, other than Null and its Default.
func suiting(f api.Field) []api.Value {
	a, b := sample.Text(api.Symbol, "a"), sample.Text(api.Symbol, "b")
	switch f.Type {
	case api.Bool:
		return without(f.Default, sample.Num(api.Bool, 0), sample.Num(api.Bool, 1))
	case api.Ubyte, api.Ushort, api.Uint, api.Ulong, api.Time:
		return without(f.Default, sample.Num(f.Type, 1), sample.Num(f.Type, 0), sample.Num(f.Type, 255))
	case api.Binary, api.String, api.Symbol:
		return []api.Value{sample.Text(f.Type, "a"), sample.Text(f.Type, "")}
	case api.Map:
		return []api.Value{sample.Pairs(a, sample.Within(2, b)), sample.Pairs()}
	case api.AnyValue:
		return []api.Value{a, sample.Num(api.Ulong, 7), sample.List(a, sample.List(b)), byName(api.KEnd, api.Value{}), sample.Array(api.Symbol)}
	case api.Symbols:
		return []api.Value{sample.Array(api.Symbol, a, b), sample.Array(api.Symbol, a), sample.Array(api.Symbol)}
	}
	var l []api.Value
	for _, kind := range f.Kinds {
		l = append(l, composite(kind, lean(kind)...), byName(kind, lean(kind)...), composite(kind, full(kind)...))
	}
	return l
}

func without(v api.Value, l ...api.Value) []api.Value {
	var rest []api.Value
	for _, one := range l {
		if !sample.Same(one, v) {
			rest = append(rest, one)
		}
	}
	return rest
}

// lean are a composite's fields, Null where they need not be there.
func lean(kind int) []api.Value {
	l := make([]api.Value, len(fields[kind]))
	for i, f := range fields[kind] {
		if f.Must {
			l[i] = suiting(f)[0]
		}
	}
	return l
}

// full are a composite's fields, all of them there and none its Default.
func full(kind int) []api.Value {
	l := make([]api.Value, len(fields[kind]))
	for i, f := range fields[kind] {
		l[i] = suiting(f)[0]
	}
	return l
}

// with is a list in which one value is another one.
func with(l []api.Value, at int, v api.Value) []api.Value {
	l = append([]api.Value(nil), l...)
	l[at] = v
	return l
}

// anything are values of each kind, composites of each kind, and such as may not be.
func anything() []api.Value {
	a := sample.Text(api.Symbol, "a")
	l := append(sample.Edges(), sample.List(), sample.List(a), sample.Pairs(), sample.Pairs(a, a), sample.Described(a, a), sample.Described(a, sample.List()))
	for kind := api.Bool; kind < api.Described; kind++ {
		l = append(l, sample.Array(kind))
	}
	l = append(l, sample.Array(api.Symbol, a), sample.Array(api.Symbol, a, a), sample.Array(api.String, sample.Text(api.String, "a")))
	for kind := range names {
		l = append(l, composite(kind), byName(kind), composite(kind, lean(kind)...), byName(kind, full(kind)...), composite(kind, append(lean(kind), api.Value{})...))
		l = append(l, sample.Described(sample.Num(api.Ulong, uint64(kind)), sample.Pairs()), sample.Described(sample.Num(api.Ulong, uint64(kind)), api.Value{}))
	}
	l = append(l, sample.Num(api.Ubyte, 256), sample.Num(-1, 0), sample.Num(25, 0), sample.Num(api.Null, 1), sample.Text(api.Null, "a"), sample.Text(api.Symbol, "\xff"), sample.Text(api.String, "\xff"), sample.Pairs(a), sample.Pairs(a, a, a, a), sample.Array(0), sample.Array(api.Symbol, sample.Num(api.Uint, 1)), sample.Described(a), api.Value{Kind: api.Uint, Elem: 1})
	return append(l, sample.Within(31, a), sample.Within(32, a), sample.Num(100, 0), sample.Num(101, 0), sample.Num(102, 0))
}

// nested is a map that is so deep.
func nested(deep int) api.Value {
	v := sample.Pairs()
	for range deep - 1 {
		v = sample.Pairs(sample.Text(api.Symbol, "in"), v)
	}
	return v
}
