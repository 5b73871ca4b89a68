package shape

import (
	"slices"

	"longshore/api"
	"longshore/value"
)

// What is made here shares lists with what it is made of: nobody changes them, and the faces answer copies.

// packed is what Pack makes of a record, or Check's error.
func packed(r api.Record) (api.Value, api.Errno) {
	fields, is := Fields(r.Kind)
	if !is {
		return api.Value{}, api.ErrComposite
	}
	if len(r.Fields) != len(fields) {
		return api.Value{}, api.ErrFields
	}
	full := api.Record{Kind: r.Kind, Fields: make([]api.Value, len(fields))}
	for i, f := range fields {
		var e api.Errno
		if full.Fields[i], e = checked(f, r.Fields[i]); e != api.OK {
			return api.Value{}, e
		}
	}
	v := laid(full)
	if value.Depth(v) > api.MaxDepth {
		return api.Value{}, api.ErrDeep
	}
	return v, api.OK
}

// checked is what a value of a record becomes, or why it may not stand in that field.
func checked(f api.Field, v api.Value) (api.Value, api.Errno) {
	if lacks(f, v) {
		return api.Value{}, api.ErrMust
	}
	if e := value.Check(v); e != api.OK {
		return api.Value{}, e
	}
	if f.Type == api.Symbols && v.Kind == api.Symbol {
		// A lone Symbol is another way to write an Array; a record has the Array.
		return api.Value{}, api.ErrField
	}
	return filled(f, v)
}

func lacks(f api.Field, v api.Value) bool { return f.Must && v.Kind == api.Null }

// laid is the value of a record in which each field is as Unpack makes it: such a one is never nested deeper than what Unpack was given, but for a lone Symbol, which never stands near the limit.
func laid(full api.Record) api.Value {
	fields, _ := Fields(full.Kind)
	list := make([]api.Value, len(fields))
	said := 0
	for i, f := range fields {
		if !value.Equal(full.Fields[i], f.Default) {
			list[i] = full.Fields[i]
			said = i + 1
		}
	}
	return api.Value{Kind: api.Described, List: []api.Value{numbered(full.Kind), {Kind: api.List, List: list[:said]}}}
}

// unpacked is what Unpack answers of a value that may be.
func unpacked(v api.Value) (api.Record, int, api.Errno) {
	kind, _ := Kind(v)
	fields, is := Fields(kind)
	if !is || v.List[1].Kind != api.List {
		return api.Record{}, 0, api.ErrComposite
	}
	there := v.List[1].List
	if len(there) > len(fields) {
		return api.Record{}, len(fields), api.ErrFields
	}
	full := api.Record{Kind: kind, Fields: make([]api.Value, len(fields))}
	copy(full.Fields, there) // those that are not there stay Null
	for i, f := range fields {
		var e api.Errno
		if full.Fields[i], e = filled(f, full.Fields[i]); e != api.OK {
			return api.Record{}, i, e
		}
	}
	return full, 0, api.OK
}

// filled is what a field is in a record where v stands in a list.
func filled(f api.Field, v api.Value) (api.Value, api.Errno) {
	if lacks(f, v) {
		return api.Value{}, api.ErrMust
	}
	if v.Kind == api.Null {
		return f.Default, api.OK
	}
	return reader(f)(v)
}

// reader is what makes a record's value of one that stands in a list and is not Null, picked by the field's type.
func reader(f api.Field) func(api.Value) (api.Value, api.Errno) {
	switch f.Type {
	case api.AnyValue:
		return func(v api.Value) (api.Value, api.Errno) { return v, api.OK }
	case api.Symbols:
		return symbols
	case api.Composite:
		return func(v api.Value) (api.Value, api.Errno) {
			if kind, is := Kind(v); !is || !slices.Contains(f.Kinds, kind) {
				return api.Value{}, api.ErrField
			}
			return repacked(v)
		}
	}
	return func(v api.Value) (api.Value, api.Errno) {
		if v.Kind != f.Type {
			return api.Value{}, api.ErrField
		}
		return v, api.OK
	}
}

func symbols(v api.Value) (api.Value, api.Errno) {
	switch {
	case v.Kind == api.Symbol:
		return api.Value{Kind: api.Array, Elem: api.Symbol, List: []api.Value{v}}, api.OK
	case v.Kind == api.Array && v.Elem == api.Symbol:
		return v, api.OK
	}
	return api.Value{}, api.ErrField
}

// repacked is what Pack makes of what Unpack makes of a composite.
func repacked(v api.Value) (api.Value, api.Errno) {
	r, _, e := unpacked(v)
	if e != api.OK {
		return api.Value{}, e
	}
	return laid(r), api.OK
}
