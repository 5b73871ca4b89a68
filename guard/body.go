package guard

import (
	"slices"

	"longshore/api"
	"longshore/codec"
	"longshore/shape"
)

// turn is what a side waits for: a body of one of these kinds; none of any, if it is over.
type turn []int

// read reads a body that is waited for.
func (t turn) read(body []byte) (api.Record, api.Errno) {
	if len(t) == 0 {
		return api.Record{}, api.ErrTurn
	}
	v, _, e := codec.Whole(body)
	if e != api.OK {
		return api.Record{}, e
	}
	r, _, e := shape.Unpack(v)
	if e != api.OK {
		return api.Record{}, e
	}
	if !slices.Contains(t, r.Kind) {
		return api.Record{}, api.ErrTurn
	}
	return r, api.OK
}

// bodyOf is the body of a record. Both errors are passed over: the records of this package may all be, and are short.
func bodyOf(kind int, fields ...api.Value) []byte {
	v, _ := shape.Pack(api.Record{Kind: kind, Fields: fields})
	b, _ := codec.Encode(v)
	return b
}

func symbol(s string) api.Value { return api.Value{Kind: api.Symbol, Text: s} }

func binary(s string) api.Value { return api.Value{Kind: api.Binary, Text: s} }
