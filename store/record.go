package store

import (
	"longshore/api"
	"longshore/codec"
)

// part is an element of a record: its kind, and where in an operation stands what it says, a number or a text.
type part struct {
	kind   int
	number *int
	text   *string
}

// partsOf are the elements of the record of an operation; none, if there is no record of its Kind.
func partsOf(op *api.Op) []part {
	kind, name, seq := part{api.Uint, &op.Kind, nil}, part{api.String, nil, &op.Queue}, part{api.Ulong, &op.Seq, nil}
	c, e := &op.Config, &op.Entry
	switch op.Kind {
	case api.OpDeclare:
		return []part{kind, {api.String, nil, &c.Name}, {api.Uint, &c.Most, nil}, {api.String, nil, &c.Dead}, {api.Uint, &c.Tries, nil}}
	case api.OpDelete:
		return []part{kind, name}
	case api.OpBind, api.OpUnbind:
		return []part{kind, {api.String, nil, &op.Pattern}, name}
	case api.OpPut:
		return []part{kind, name, {api.Ulong, &e.Seq, nil}, {api.Ubyte, &e.Priority, nil}, {api.Long, &e.Expiry, nil}, {api.Uint, &e.Count, nil}}
	case api.OpRemove:
		return []part{kind, name, seq}
	case api.OpMove:
		return []part{kind, name, seq, {api.String, nil, &op.To}, {api.Ulong, &e.Seq, nil}, {api.Uint, &op.Count, nil}}
	}
	return nil
}

func (p part) value() api.Value {
	if p.text != nil {
		return api.Value{Kind: p.kind, Text: *p.text}
	}
	return api.Value{Kind: p.kind, Num: uint64(*p.number)}
}

// read takes over what a value says; false, if it is of another kind.
func (p part) read(v api.Value) bool {
	if v.Kind != p.kind {
		return false
	}
	if p.text != nil {
		*p.text = v.Text
	} else {
		*p.number = int(v.Num) // a number above the greatest int is below 0 then, and refused like that one
	}
	return true
}

// recordOf is the record of an operation that may be.
func recordOf(op api.Op) []byte {
	list := api.Value{Kind: api.List}
	for _, p := range partsOf(&op) {
		list.List = append(list.List, p.value())
	}
	b, _ := codec.Encode(list)
	if op.Kind == api.OpPut {
		b = append(b, op.Entry.Data...)
	}
	return b
}

// opOf is the operation that a record says: of what is written, so it is durable.
func opOf(record []byte) (api.Op, bool) {
	v, behind, e := codec.Decode(record, 0)
	if e != api.OK || v.Kind != api.List || len(v.List) == 0 {
		return api.Op{}, false
	}
	op := api.Op{Kind: int(v.List[0].Num)}
	parts := partsOf(&op)
	if len(parts) != len(v.List) {
		return api.Op{}, false
	}
	for i, p := range parts {
		if !p.read(v.List[i]) {
			return api.Op{}, false
		}
	}
	if op.Kind == api.OpPut {
		op.Entry.Data = record[behind:]
	} else if behind < len(record) {
		return api.Op{}, false
	}
	op.Config.Durable, op.Entry.Durable = true, true
	return op, true
}
