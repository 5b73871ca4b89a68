package message_test

import (
	"math"
	"strings"
	"testing"

	"longshore/api"
	"longshore/message"
	"longshore/sample"
)

// P11.1
func TestBlank(t *testing.T) {
	want := api.Message{Header: api.Header{Priority: 4, Ttl: -1}, Properties: api.Properties{Expiry: -1, Created: -1, Sequence: -1}, Body: api.BodyData, Data: []string{""}}
	if m := message.Blank(); !alike(m, want) {
		t.Errorf("Blank: %s", told(m))
	}
	wantBytes(t, message.Blank(), hex("00 53 75 a0 00"))
}

// P11.2: each field of the header and of the properties, with what may stand in it and what may not.
func TestCheckOfFields(t *testing.T) {
	for _, f := range fields {
		for _, x := range f.good {
			for _, m := range []api.Message{plain(), full()} {
				if e := wantAsModel(t, with(m, f.path, x)); e != api.OK {
					t.Errorf("%s %s: %d", f.path, brief(told(x)), e)
				}
			}
		}
		for _, x := range f.bad {
			wantError(t, with(plain(), f.path, x), api.ErrProps)
			wantError(t, with(full(), f.path, x), api.ErrProps)
		}
	}
}

// P11.2: without Has nothing may be said, and what is there is not looked at by what it may be with Has.
func TestCheckWithoutHas(t *testing.T) {
	for _, f := range fields {
		part, _, _ := strings.Cut(f.path, ".")
		blank := plain()
		for _, x := range append(append([]any{}, f.good...), f.bad...) {
			m := with(plain(), f.path, x)
			want := api.ErrProps
			if part == "Header" {
				m.Header.Has = false
				if alike(m.Header, blank.Header) {
					want = api.OK
				}
			} else {
				m.Properties.Has = false
				if alike(m.Properties, blank.Properties) {
					want = api.OK
				}
			}
			if e := wantAsModel(t, m); e != want {
				t.Errorf("%s %s without Has: %d, want %d", f.path, brief(told(x)), e, want)
			}
		}
	}
	wantError(t, turned(func(m *api.Message) { m.Header = api.Header{} }), api.ErrProps)
	wantError(t, turned(func(m *api.Message) { m.Properties = api.Properties{} }), api.ErrProps)
	wantBytes(t, turned(func(m *api.Message) { m.Properties = api.Properties{Has: true} }), encoded(parse(`(ulong 115 [null null null null null null null null time 0 time 0 null uint 0])`), section(117, octets("hi"))))
	wantBytes(t, turned(func(m *api.Message) { m.Header = api.Header{Has: true} }), append(encoded(parse(`(ulong 112 [null ubyte 0 uint 0])`)), hex(hi)...))
}

// P11.2: each part that is a map, with what may stand in it and what may not.
func TestCheckOfMaps(t *testing.T) {
	for _, part := range parts {
		for _, v := range goodMaps(part) {
			for _, m := range []api.Message{plain(), full()} {
				if e := wantAsModel(t, with(m, part, v)); e != api.OK {
					t.Errorf("%s %s: %d", part, brief(told(v)), e)
				}
			}
		}
		for _, w := range badMaps(part) {
			wantError(t, with(plain(), part, w.v), w.e)
			wantError(t, with(full(), part, w.v), w.e)
		}
	}
}

// P11.2: a value of each kind in the application properties; the kinds ahead of List may be there.
func TestCheckOfApplicationKinds(t *testing.T) {
	for _, v := range append(ofEachKind(), api.Value{}) {
		want := api.OK
		if v.Kind >= 21 {
			want = api.ErrProps
		}
		if e := message.Check(with(plain(), "App", sample.Pairs(text("k"), v))); e != want {
			t.Errorf("a value of the kind %d: %d, want %d", v.Kind, e, want)
		}
	}
}

// P11.2: each Body with none, one and several of what it has, and with something of what another one has.
func TestCheckOfBodies(t *testing.T) {
	data := [][]string{nil, {}, {""}, {"a"}, {"", "\xff", long(300)}}
	list := sample.List(text("a"), nested(3))
	sequences := [][]api.Value{nil, {}, {sample.List()}, {list}, {list, sample.List(), list}}
	values := []api.Value{{}, {List: []api.Value{}}, sample.Num(api.Bool, 0), text(""), list, sample.Described(text("a"), api.Value{})}
	for body := -2; body <= 6; body++ {
		for _, d := range data {
			for _, s := range sequences {
				for _, v := range values {
					m := turned(func(m *api.Message) { m.Body, m.Data, m.Sequences, m.Value = body, d, s, v })
					isNull := v.Kind == api.Null
					may := body == 1 && len(d) > 0 && len(s) == 0 && isNull || body == 2 && len(d) == 0 && len(s) > 0 && isNull || body == 3 && len(d) == 0 && len(s) == 0
					e := wantAsModel(t, m)
					if may && e != api.OK || !may && e != api.ErrBody {
						t.Errorf("Body %d with %d, %d and %s: %d", body, len(d), len(s), told(v), e)
					}
				}
			}
		}
	}
	for _, body := range []int{math.MinInt, math.MaxInt, 1 << 32, 1<<32 + 1} {
		wantError(t, turned(func(m *api.Message) { m.Body = body }), api.ErrBody)
	}
	for _, v := range []api.Value{sample.Num(api.Null, 1), sample.Text(api.Null, "a"), {Elem: 1}, {List: []api.Value{{}}}} {
		wantError(t, turned(func(m *api.Message) { m.Value = v }), api.ErrBody)
		wantError(t, turned(func(m *api.Message) {
			m.Body, m.Data, m.Sequences, m.Value = api.BodySequence, nil, []api.Value{sample.List()}, v
		}), api.ErrBody)
	}
}

// P11.2: sequences that are no lists, and lists and values that may not be.
func TestCheckOfBodyValues(t *testing.T) {
	sequence := func(l ...api.Value) api.Message {
		return turned(func(m *api.Message) { m.Body, m.Data, m.Sequences = api.BodySequence, nil, l })
	}
	single := func(v api.Value) api.Message {
		return turned(func(m *api.Message) { m.Body, m.Data, m.Value = api.BodyValue, nil, v })
	}
	for _, v := range append(ofEachKind(), api.Value{}) {
		wantBytes(t, single(v), encoded(section(119, v)))
		if v.Kind == api.List {
			continue
		}
		wantError(t, sequence(v), api.ErrBody)
		wantError(t, sequence(sample.List(), v), api.ErrBody)
		wantError(t, sequence(v, sample.List()), api.ErrBody)
		wantBytes(t, sequence(sample.List(v)), encoded(section(118, sample.List(v))))
	}
	for _, w := range []wrong{
		{sample.Num(-1, 0), api.ErrKind}, {sample.Num(25, 0), api.ErrKind}, {sample.Num(api.Bool, 2), api.ErrNum}, {text("\xff"), api.ErrText}, {symbol("\x80"), api.ErrText}, {sample.Pairs(text("a")), api.ErrMap}, {sample.Array(api.Null), api.ErrArray}, {sample.Num(api.Null, 1), api.ErrExtra}, {sample.Described(text("a")), api.ErrParts},
	} {
		if w.e != api.ErrExtra {
			wantError(t, single(w.v), w.e)
		}
		wantError(t, sequence(sample.List(w.v)), w.e)
		wantError(t, sequence(sample.List(), sample.List(w.v), sample.List(text("\xff"))), w.e)
		wantError(t, sequence(w.v, sample.List(w.v)), api.ErrBody)
		wantError(t, sequence(sample.List(w.v), text("a")), api.ErrBody)
	}
	wantError(t, single(sample.Num(api.Null, 1)), api.ErrExtra)
	wantError(t, single(api.Value{List: []api.Value{{}}}), api.ErrExtra)
	for _, deep := range []int{1, 30, 31} {
		wantBytes(t, single(nested(deep)), encoded(section(119, nested(deep))))
		list := sample.Within(deep-1, sample.List())
		wantBytes(t, sequence(list), encoded(section(118, list)))
	}
	for _, deep := range []int{32, 33, 40} {
		wantError(t, single(nested(deep)), api.ErrDeep)
		wantError(t, sequence(sample.Within(deep-1, sample.List())), api.ErrDeep)
	}
}

// fault is something wrong in a message: a turn to it, and its error.
type fault struct {
	what string
	turn func(m *api.Message)
	e    api.Errno
}

// inOrder are faults of which an earlier one comes ahead of a later one. Their turns go together, where they are not in one part.
func inOrder() []fault {
	odd, other := sample.Pairs(symbol("a")), sample.Pairs(sample.Num(api.Uint, 1), api.Value{})
	sequences := func(l ...api.Value) func(m *api.Message) {
		return func(m *api.Message) { m.Body, m.Data, m.Sequences = api.BodySequence, nil, l }
	}
	return []fault{
		{"Header", func(m *api.Message) { m.Header.Priority = 256 }, api.ErrProps},
		{"DelAnn", func(m *api.Message) { m.DelAnn = sample.List(sample.Num(25, 0)) }, api.ErrProps},
		{"DelAnn", func(m *api.Message) { m.DelAnn = sample.Pairs(symbol("a"), sample.Num(25, 0)) }, api.ErrKind},
		{"DelAnn", func(m *api.Message) { m.DelAnn = other }, api.ErrProps},
		{"MsgAnn", func(m *api.Message) { m.MsgAnn = symbol("a") }, api.ErrProps},
		{"MsgAnn", func(m *api.Message) { m.MsgAnn = odd }, api.ErrMap},
		{"MsgAnn", func(m *api.Message) { m.MsgAnn = other }, api.ErrProps},
		{"Properties", func(m *api.Message) { m.Properties.MessageId = text("\xff") }, api.ErrProps},
		{"App", func(m *api.Message) { m.App = sample.Num(api.Bool, 2) }, api.ErrProps},
		{"App", func(m *api.Message) { m.App = sample.Pairs(text("a"), symbol("\xff")) }, api.ErrText},
		{"App", func(m *api.Message) { m.App = sample.Pairs(text("a"), sample.List()) }, api.ErrProps},
		{"Body", sequences(text("a"), sample.List(sample.Array(api.Null))), api.ErrBody},
		{"Body", sequences(sample.List(sample.Array(api.Null)), sample.List(sample.Num(api.Bool, 2))), api.ErrArray},
		{"Body", sequences(sample.List(), sample.List(sample.Num(api.Bool, 2))), api.ErrNum},
		{"Body", func(m *api.Message) { m.Body, m.Sequences, m.Value = api.BodyValue, nil, sample.Num(25, 0) }, api.ErrKind},
		{"Footer", func(m *api.Message) { m.Footer = sample.Described(symbol("a")) }, api.ErrProps},
		{"Footer", func(m *api.Message) { m.Footer = sample.Pairs(symbol("a"), sample.Described(symbol("a"))) }, api.ErrParts},
		{"Footer", func(m *api.Message) { m.Footer = other }, api.ErrProps},
		{"DelAnn", func(m *api.Message) { m.DelAnn = nested(32) }, api.ErrDeep},
		{"MsgAnn", func(m *api.Message) { m.MsgAnn = sample.Pairs(symbol("a"), octets(long(1<<20))) }, api.ErrLong},
		{"MsgAnn", func(m *api.Message) { m.MsgAnn = nested(32) }, api.ErrDeep},
		{"App", func(m *api.Message) { m.App = sample.Pairs(text("a"), octets(long(1<<20))) }, api.ErrLong},
		{"Body", sequences(sample.List(octets(long(1<<20))), sample.Within(31, sample.List())), api.ErrLong},
		{"Body", sequences(sample.Within(31, sample.List()), sample.List(octets(long(1<<20)))), api.ErrDeep},
		{"Footer", func(m *api.Message) { m.Footer = nested(32) }, api.ErrDeep},
		{"all", func(m *api.Message) {
			m.Body, m.Data, m.Sequences = api.BodyData, []string{long(1 << 19), long(1 << 19)}, nil
		}, api.ErrLong},
	}
}

// P11.2: of two faults the one that the chapter names first is told.
func TestOrderOfErrors(t *testing.T) {
	l := inOrder()
	for i, first := range l {
		m := full()
		first.turn(&m)
		wantError(t, m, first.e)
		for _, second := range l[i+1:] {
			if second.what == first.what || first.what == "Body" && second.what == "all" {
				continue
			}
			m := full()
			second.turn(&m)
			first.turn(&m)
			wantError(t, m, first.e)
		}
	}
}

// P11.2: the kind of a part is looked at ahead of the part, and the part ahead of its keys.
func TestOrderWithinAPart(t *testing.T) {
	for _, part := range parts {
		wantError(t, with(plain(), part, sample.List(sample.Num(25, 0))), api.ErrProps)
		wantError(t, with(plain(), part, sample.Num(25, 1)), api.ErrProps)
		wantError(t, with(plain(), part, sample.Pairs(sample.List(), sample.Num(25, 0))), api.ErrKind)
		wantError(t, with(plain(), part, sample.Pairs(sample.List(), sample.Within(32, api.Value{}))), api.ErrDeep)
	}
	wantError(t, with(plain(), "App", sample.Pairs(text("a"), sample.List(), text("b"), text("\xff"))), api.ErrText)
	wantError(t, with(plain(), "App", sample.Pairs(text("a"), sample.Within(30, sample.List()))), api.ErrProps)
	wantError(t, with(plain(), "App", sample.Pairs(text("a"), sample.Within(31, sample.List()))), api.ErrDeep)
}

// P11.2: a message of MaxMessage bytes, and one of one byte more, in one section and in several.
func TestCheckOfLengths(t *testing.T) {
	for more := -2; more <= 3; more++ {
		for _, m := range greatest(more) {
			e := wantAsModel(t, m)
			if more <= 0 && e != api.OK || more > 0 && e != api.ErrLong {
				t.Errorf("a message of %d bytes: %d", 1048576+more, e)
			}
			if b, _ := message.Encode(m); e == api.OK && len(b) != 1048576+more {
				t.Errorf("%d bytes, want %d", len(b), 1048576+more)
			}
		}
	}
}

// fitted is a message with a text of so many bytes that it takes just the bytes that are asked for.
func fitted(size int, made func(s string) api.Message) api.Message {
	const some = 1000 // beyond the texts that have a shorter form
	b, _ := modelEncode(made(long(some)))
	return made(long(some + size - len(b)))
}

// greatest are messages that take so many bytes more than the greatest.
func greatest(more int) []api.Message {
	var l []api.Message
	for _, made := range []func(s string) api.Message{
		func(s string) api.Message { return turned(func(m *api.Message) { m.Data = []string{s} }) },
		func(s string) api.Message {
			return turned(func(m *api.Message) { m.Data = []string{"", long(1 << 19), s} })
		},
		func(s string) api.Message {
			return turned(func(m *api.Message) {
				m.Header.Has, m.Data, m.Footer = true, append(make([]string, 20000), s), sample.Pairs()
			})
		},
		func(s string) api.Message {
			return turned(func(m *api.Message) { m.Body, m.Data, m.Value = api.BodyValue, nil, octets(s) })
		},
		func(s string) api.Message {
			return turned(func(m *api.Message) {
				m.Body, m.Data, m.Sequences = api.BodySequence, nil, []api.Value{sample.List(), sample.List(octets(s)), sample.List(octets(long(1 << 18)))}
			})
		},
		func(s string) api.Message { return with(full(), "Footer", sample.Pairs(symbol("a"), octets(s))) },
		func(s string) api.Message { return with(full(), "DelAnn", sample.Pairs(symbol("a"), octets(s))) },
		func(s string) api.Message { return with(full(), "App", sample.Pairs(text("a"), octets(s))) },
	} {
		l = append(l, fitted(1048576+more, made))
	}
	return l
}
