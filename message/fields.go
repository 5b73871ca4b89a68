package message

import (
	"longshore/api"
	"longshore/shape"
)

const (
	none            = -1 // a number that is not there
	defaultPriority = 4
)

// Places of fields in the composites.
const (
	atDurable = iota
	atPriority
	atTtl
	atFirst
	atCount
)

const (
	atMessageId = iota
	atUserId
	atTo
	atSubject
	atReplyTo
	atCorrelation
	atContentType
	atEncoding
	atExpiry
	atCreated
	atGroup
	atSequence
	atReplyGroup
)

func noHeader() api.Header { return api.Header{Priority: defaultPriority, Ttl: none} }

func noProperties() api.Properties {
	return api.Properties{Expiry: none, Created: none, Sequence: none}
}

// packHeader is the composite of a header that may be.
func packHeader(h api.Header) api.Value {
	return packed(api.KHeader, truth(h.Durable), octetOf(h.Priority), wordIfAny(h.Ttl), truth(h.First), word(h.Count))
}

// packProperties is the composite of properties that may be.
func packProperties(p api.Properties) api.Value {
	return packed(
		api.KProperties,
		p.MessageId,
		textIfAny(api.Binary, p.UserId),
		textIfAny(api.String, p.To),
		textIfAny(api.String, p.Subject),
		textIfAny(api.String, p.ReplyTo),
		p.Correlation,
		textIfAny(api.Symbol, p.ContentType),
		textIfAny(api.Symbol, p.Encoding),
		timeIfAny(p.Expiry),
		timeIfAny(p.Created),
		textIfAny(api.String, p.Group),
		wordIfAny(p.Sequence),
		textIfAny(api.String, p.ReplyGroup),
	)
}

// packed is a composite whose fields were looked at, so that shape finds no fault in them.
func packed(kind int, fields ...api.Value) api.Value {
	v, _ := shape.Pack(api.Record{Kind: kind, Fields: fields})
	return v
}

func unpackHeader(v api.Value) (api.Header, api.Errno) {
	r, _, e := shape.Unpack(v)
	if e != api.OK {
		return api.Header{}, e
	}
	f := r.Fields
	return api.Header{
		Has:      true,
		Durable:  isTrue(f[atDurable]),
		Priority: numberOf(f[atPriority]),
		Ttl:      numberOf(f[atTtl]),
		First:    isTrue(f[atFirst]),
		Count:    numberOf(f[atCount]),
	}, api.OK
}

func unpackProperties(v api.Value) (api.Properties, api.Errno) {
	r, _, e := shape.Unpack(v)
	if e != api.OK {
		return api.Properties{}, e
	}
	f := r.Fields
	p := api.Properties{
		Has:         true,
		MessageId:   f[atMessageId],
		UserId:      f[atUserId].Text,
		To:          f[atTo].Text,
		Subject:     f[atSubject].Text,
		ReplyTo:     f[atReplyTo].Text,
		Correlation: f[atCorrelation],
		ContentType: f[atContentType].Text,
		Encoding:    f[atEncoding].Text,
		Expiry:      numberOf(f[atExpiry]),
		Created:     numberOf(f[atCreated]),
		Group:       f[atGroup].Text,
		Sequence:    numberOf(f[atSequence]),
		ReplyGroup:  f[atReplyGroup].Text,
	}
	if isNoTime(f[atExpiry]) || isNoTime(f[atCreated]) || !propertiesMayBe(p) {
		return api.Properties{}, api.ErrProps
	}
	return p, api.OK
}

// isNoTime looks at the wire's number, as there a time of -1 is not one that is left out. One below 0 has the highest bit set.
func isNoTime(v api.Value) bool { return v.Num > api.MaxTime }

func isTrue(v api.Value) bool { return v.Num == 1 }

// numberOf is a field's number, none where the field is Null.
func numberOf(v api.Value) int {
	if v.Kind == api.Null {
		return none
	}
	return int(v.Num)
}

func truth(so bool) api.Value {
	v := api.Value{Kind: api.Bool}
	if so {
		v.Num = 1
	}
	return v
}

// octetOf and word take the lowest bits of a number that does not fit.
func octetOf(n int) api.Value { return api.Value{Kind: api.Ubyte, Num: uint64(uint8(n))} }

func word(n int) api.Value { return api.Value{Kind: api.Uint, Num: uint64(uint32(n))} }

func wordIfAny(n int) api.Value {
	if n < 0 {
		return api.Value{}
	}
	return word(n)
}

func timeIfAny(n int) api.Value {
	if n < 0 {
		return api.Value{}
	}
	return api.Value{Kind: api.Time, Num: uint64(n)}
}

func textIfAny(kind int, s string) api.Value {
	if s == "" {
		return api.Value{}
	}
	return api.Value{Kind: kind, Text: s}
}
