package message

import (
	"iter"
	"slices"

	"longshore/api"
)

// written goes through a message's sections, in their order, as the values that go over the wire. One at a time, as a body may have any number of them.
func written(m api.Message) iter.Seq[api.Value] {
	return func(yield func(api.Value) bool) {
		for _, part := range []iter.Seq[api.Value]{slices.Values(ahead(m)), body(m), slices.Values(ifAny(api.KFooter, m.Footer))} {
			for v := range part {
				if !yield(v) {
					return
				}
			}
		}
	}
}

// ahead are the sections ahead of the body.
func ahead(m api.Message) []api.Value {
	var l []api.Value
	if m.Header.Has {
		l = append(l, packHeader(m.Header))
	}
	l = append(l, ifAny(api.KDeliveryAnn, m.DelAnn)...)
	l = append(l, ifAny(api.KMessageAnn, m.MsgAnn)...)
	if m.Properties.Has {
		l = append(l, packProperties(m.Properties))
	}
	return append(l, ifAny(api.KApplication, m.App)...)
}

// ifAny is the section of a map, if it is there.
func ifAny(kind int, v api.Value) []api.Value {
	if v.Kind == api.Null {
		return nil
	}
	return []api.Value{described(kind, v)}
}

func body(m api.Message) iter.Seq[api.Value] {
	return func(yield func(api.Value) bool) {
		for _, s := range m.Data {
			if !yield(described(api.KData, api.Value{Kind: api.Binary, Text: s})) {
				return
			}
		}
		for _, v := range m.Sequences {
			if !yield(described(api.KSequence, v)) {
				return
			}
		}
		if m.Body == api.BodyValue {
			yield(described(api.KBody, m.Value))
		}
	}
}

func described(kind int, v api.Value) api.Value {
	return api.Value{Kind: api.Described, List: []api.Value{{Kind: api.Ulong, Num: uint64(kind)}, v}}
}
