package message

import (
	"longshore/api"
	"longshore/codec"
	"longshore/shape"
)

// section is a section that was read; its type says which part of a message it is.
type section interface {
	kind() int
}

type (
	header      api.Header
	deliveryAnn api.Value
	messageAnn  api.Value
	properties  api.Properties
	application api.Value
	data        api.Value
	sequence    api.Value
	single      api.Value
	footer      api.Value
)

func (header) kind() int      { return api.KHeader }
func (deliveryAnn) kind() int { return api.KDeliveryAnn }
func (messageAnn) kind() int  { return api.KMessageAnn }
func (properties) kind() int  { return api.KProperties }
func (application) kind() int { return api.KApplication }
func (data) kind() int        { return api.KData }
func (sequence) kind() int    { return api.KSequence }
func (single) kind() int      { return api.KBody }
func (footer) kind() int      { return api.KFooter }

// placed is a section and the place behind it.
type placed struct {
	section
	behind int
}

// sections reads a message's sections; with an error it tells the place of the fault.
func sections(b []byte) ([]placed, int, api.Errno) {
	if len(b) > api.MaxMessage {
		return nil, 0, api.ErrLong
	}
	var l []placed
	last := 0
	for at := 0; at < len(b); {
		v, next, e := codec.Decode(b, at)
		if e != api.OK {
			return nil, next, e
		}
		kind, _ := shape.Kind(v)
		if e := orderFault(last, kind); e != api.OK {
			return nil, at, e
		}
		s, e := read(kind, v)
		if e != api.OK {
			return nil, at, e
		}
		l = append(l, placed{s, next})
		last, at = kind, next
	}
	if !isBody(last) && last != api.KFooter {
		return nil, len(b), api.ErrBody
	}
	return l, 0, api.OK
}

// orderFault tells what is wrong with a section of a kind right behind one of the kind last (0, if it is the first one). The kinds of sections rise as their parts' order does.
func orderFault(last, kind int) api.Errno {
	switch {
	case kind < api.KHeader || kind > api.KFooter:
		return api.ErrSection
	case isBody(last) && isBody(kind) && last != kind:
		return api.ErrBody
	case last > kind:
		return api.ErrSection
	case last == kind && kind != api.KData && kind != api.KSequence:
		return api.ErrSection
	case kind == api.KFooter && !isBody(last):
		return api.ErrBody
	}
	return api.OK
}

func isBody(kind int) bool { return kind >= api.KData && kind <= api.KBody }

// read is the section that a value described as of a section's kind says.
func read(kind int, v api.Value) (section, api.Errno) {
	inner := v.List[1]
	switch kind {
	case api.KHeader:
		h, e := unpackHeader(v)
		return header(h), e
	case api.KDeliveryAnn:
		return deliveryAnn(inner), mapFault(inner, annotations())
	case api.KMessageAnn:
		return messageAnn(inner), mapFault(inner, annotations())
	case api.KProperties:
		p, e := unpackProperties(v)
		return properties(p), e
	case api.KApplication:
		return application(inner), mapFault(inner, simpleByStrings())
	case api.KData:
		return data(inner), kindFault(inner, api.Binary)
	case api.KSequence:
		return sequence(inner), kindFault(inner, api.List)
	case api.KFooter:
		return footer(inner), mapFault(inner, annotations())
	}
	return single(inner), api.OK
}

func mapFault(v api.Value, may rule) api.Errno {
	if e := kindFault(v, api.Map); e != api.OK {
		return e
	}
	return ruleFault(v, may)
}

func kindFault(v api.Value, kind int) api.Errno {
	if v.Kind != kind {
		return api.ErrSection
	}
	return api.OK
}

// joined is the message that has these sections.
func joined(l []placed) api.Message {
	m := api.Message{Header: noHeader(), Properties: noProperties()}
	for _, s := range l {
		lay(&m, s.section)
	}
	return m
}

// lay lays a section into the part of a message that it is.
func lay(m *api.Message, s section) {
	switch s := s.(type) {
	case header:
		m.Header = api.Header(s)
	case deliveryAnn:
		m.DelAnn = api.Value(s)
	case messageAnn:
		m.MsgAnn = api.Value(s)
	case properties:
		m.Properties = api.Properties(s)
	case application:
		m.App = api.Value(s)
	case data:
		m.Body = api.BodyData
		m.Data = append(m.Data, s.Text)
	case sequence:
		m.Body = api.BodySequence
		m.Sequences = append(m.Sequences, api.Value(s))
	case single:
		m.Body = api.BodyValue
		m.Value = api.Value(s)
	case footer:
		m.Footer = api.Value(s)
	}
}
