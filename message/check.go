package message

import (
	"cmp"
	"slices"

	"longshore/api"
	"longshore/octet"
	"longshore/value"
)

const maxOctet = 255

// fault is what is wrong with a message's parts; how they are written is not looked at.
func fault(m api.Message) api.Errno {
	return cmp.Or(
		unless(headerMayBe(m.Header), api.ErrProps),
		pairsFault(m.DelAnn, annotations()),
		pairsFault(m.MsgAnn, annotations()),
		unless(propertiesMayBe(m.Properties), api.ErrProps),
		pairsFault(m.App, simpleByStrings()),
		bodyFault(m),
		pairsFault(m.Footer, annotations()),
	)
}

func unless(so bool, e api.Errno) api.Errno {
	if so {
		return api.OK
	}
	return e
}

func headerMayBe(h api.Header) bool {
	if !h.Has {
		return h == noHeader()
	}
	return h.Priority >= 0 && h.Priority <= maxOctet && isNoneOrUpTo(h.Ttl, api.MaxWord) && isWord(h.Count)
}

func isWord(n int) bool { return n >= 0 && n <= api.MaxWord }

// isNoneOrUpTo tells whether a number is not there (-1), or none that is too great.
func isNoneOrUpTo(n, most int) bool { return n >= none && n <= most }

func propertiesMayBe(p api.Properties) bool {
	if !p.Has {
		return nothingIsIn(p)
	}
	return isId(p.MessageId) && isId(p.Correlation) && len(p.UserId) <= api.MaxText &&
		isText(p.To) && isText(p.Subject) && isText(p.ReplyTo) && isText(p.Group) && isText(p.ReplyGroup) &&
		isPlain(p.ContentType) && isPlain(p.Encoding) &&
		isNoneOrUpTo(p.Expiry, api.MaxTime) && isNoneOrUpTo(p.Created, api.MaxTime) && isNoneOrUpTo(p.Sequence, api.MaxWord)
}

func nothingIsIn(p api.Properties) bool {
	return value.Equal(p.MessageId, api.Value{}) && value.Equal(p.Correlation, api.Value{}) &&
		cmp.Or(p.UserId, p.To, p.Subject, p.ReplyTo, p.ContentType, p.Encoding, p.Group, p.ReplyGroup) == "" &&
		p.Expiry == none && p.Created == none && p.Sequence == none
}

func isId(v api.Value) bool {
	switch v.Kind {
	case api.Null, api.Ulong, api.Uuid, api.Binary, api.String:
		return len(v.Text) <= api.MaxText && value.Check(v) == api.OK
	}
	return false
}

func isText(s string) bool { return len(s) <= api.MaxText && octet.Utf8(s) < 0 }

func isPlain(s string) bool { return len(s) <= api.MaxText && octet.Ascii(s) < 0 }

// rule tells whether a key and the value behind it may stand in a map.
type rule func(key, v api.Value) bool

// annotations is the rule of annotations and of a footer.
func annotations() rule { return keyed(api.Described+1, api.Symbol, api.Ulong) }

// simpleByStrings is the rule of application properties.
func simpleByStrings() rule { return keyed(api.List, api.String) }

// keyed is the rule that keys have one of some kinds, and values a kind ahead of another one.
func keyed(ahead int, kinds ...int) rule {
	return func(key, v api.Value) bool { return slices.Contains(kinds, key.Kind) && v.Kind < ahead }
}

// pairsFault is what is wrong with a map that need not be there.
func pairsFault(v api.Value, may rule) api.Errno {
	if v.Kind != api.Null && v.Kind != api.Map {
		return api.ErrProps
	}
	if e := value.Check(v); e != api.OK {
		return e
	}
	return ruleFault(v, may)
}

// ruleFault asks a rule of all pairs of a value that may be.
func ruleFault(v api.Value, may rule) api.Errno {
	for pair := range slices.Chunk(v.List, 2) {
		if !may(pair[0], pair[1]) {
			return api.ErrProps
		}
	}
	return api.OK
}

func bodyFault(m api.Message) api.Errno {
	if !bodyMayBe(m) {
		return api.ErrBody
	}
	for _, v := range m.Sequences {
		if e := value.Check(v); e != api.OK {
			return e
		}
	}
	return value.Check(m.Value)
}

// bodyMayBe tells whether just what the kind of the body has is there.
func bodyMayBe(m api.Message) bool {
	noData, noSequences, noValue := len(m.Data) == 0, len(m.Sequences) == 0, value.Equal(m.Value, api.Value{})
	switch m.Body {
	case api.BodyData:
		return !noData && noSequences && noValue
	case api.BodySequence:
		return noData && !noSequences && noValue && !slices.ContainsFunc(m.Sequences, isNoList)
	case api.BodyValue:
		return noData && noSequences
	}
	return false
}

func isNoList(v api.Value) bool { return v.Kind != api.List }
