package message_test

import (
	"bytes"
	"maps"
	"math"
	"reflect"
	"slices"
	"testing"

	"longshore/api"
	"longshore/message"
	"longshore/sample"
)

// lies is where a list lies, up to the end of its room.
type lies struct{ first, behind uintptr }

// places are where all lists in something lie, those that stand in the room behind others too.
func places(x any) []lies {
	var l []lies
	walk(reflect.ValueOf(x), func(list reflect.Value) {
		first := list.Pointer()
		l = append(l, lies{first, first + uintptr(list.Len())*list.Type().Elem().Size()})
	})
	return l
}

// walk tells of all lists in something, each up to the end of its room, ahead of what stands in it.
func walk(v reflect.Value, tell func(reflect.Value)) {
	switch v.Kind() {
	case reflect.Struct:
		for i := range v.NumField() {
			walk(v.Field(i), tell)
		}
	case reflect.Slice:
		if v.Cap() > 0 {
			list := v.Slice(0, v.Cap())
			tell(list)
			for i := range list.Len() {
				walk(list.Index(i), tell)
			}
		}
	}
}

// apart tells whether no two lists share memory.
func apart(l ...[]lies) bool {
	all := slices.Concat(l...)
	slices.SortFunc(all, func(a, b lies) int { return int(int64(a.first) - int64(b.first)) })
	for i := 1; i < len(all); i++ {
		if all[i].first < all[i-1].behind {
			return false
		}
	}
	return true
}

func TestApart(t *testing.T) {
	l := make([]api.Value, 2, 6)
	one := func(l []api.Value) []lies { return places(api.Message{Sequences: l}) }
	if !apart(one(l), one(make([]api.Value, 2)), one(nil), one(nil)) || !apart(one(l[:1:1]), one(l[1:])) {
		t.Error("lists that share nothing are not told apart")
	}
	if apart(one(l), one(l)) || apart(one(l[:0:1]), one(l)) || apart(one(l[:1]), one(l[1:])) || apart(one(l), one(l[4:6])) {
		t.Error("lists that share memory are told apart")
	}
	v := nested(2)
	if apart(places(api.Message{DelAnn: v, Value: v})) || apart(places(api.Message{App: v, Sequences: []api.Value{v}})) || !apart(places(api.Message{App: v})) {
		t.Error("lists within a message")
	}
}

// roomy is a copy all lists of which, empty ones too, have room to spare in which marks stand.
func roomy[T any](x T) T { return withMarks(reflect.ValueOf(x)).Interface().(T) }

func withMarks(v reflect.Value) reflect.Value {
	c := reflect.New(v.Type()).Elem()
	c.Set(v)
	switch v.Kind() {
	case reflect.Struct:
		for i := range v.NumField() {
			c.Field(i).Set(withMarks(v.Field(i)))
		}
	case reflect.Slice:
		n := v.Len()
		c.Set(reflect.MakeSlice(v.Type(), n+2, n+2))
		for i := range n {
			c.Index(i).Set(withMarks(v.Index(i)))
		}
		mark(c.Index(n))
		mark(c.Index(n + 1))
		c.Set(c.Slice(0, n))
	}
	return c
}

func mark(v reflect.Value) {
	switch v.Kind() {
	case reflect.Struct:
		for i := range v.NumField() {
			mark(v.Field(i))
		}
	case reflect.String:
		v.SetString("mark")
	case reflect.Int:
		v.SetInt(77)
	case reflect.Uint8, reflect.Uint64:
		v.SetUint(77)
	}
}

// scribble overwrites all lists in something, and the room behind them.
func scribble(x any) {
	walk(reflect.ValueOf(x), func(list reflect.Value) {
		if list.Type().Elem().Kind() != reflect.Struct {
			for i := range list.Len() {
				mark(list.Index(i))
			}
		}
	})
	walk(reflect.ValueOf(x), func(list reflect.Value) {
		for i := range list.Len() {
			if v := list.Index(i); v.Kind() == reflect.Struct {
				v.FieldByName("Kind").SetInt(77)
				v.FieldByName("Text").SetString("scribbled")
			}
		}
	})
}

// wantNew calls twice, and wants what was handed in as it was, with its room; the answers alike and in memory of their own, and as they were when all else is overwritten.
func wantNew[In, Out any](t *testing.T, in In, call func(In) (Out, api.Errno)) {
	t.Helper()
	in = roomy(in)
	before, there := withRoom(in), places(in)
	first, e := call(in)
	second, again := call(in)
	if withRoom(in) != before {
		t.Fatalf("%s changed: %s", brief(before), brief(withRoom(in)))
	}
	if e != again || !alike(first, second) {
		t.Fatalf("%s: %s, %d, then %s, %d", brief(before), brief(told(first)), e, brief(told(second)), again)
	}
	if !apart(there, places(first), places(second)) {
		t.Fatalf("%s: %s shares memory", brief(before), brief(told(first)))
	}
	want := told(first)
	scribble(in)
	scribble(second)
	if told(first) != want {
		t.Fatalf("%s: %s became %s", brief(before), brief(want), brief(told(first)))
	}
}

func decode(b []byte) (api.Message, api.Errno) {
	m, _, e := message.Decode(b)
	return m, e
}

// check is Check, with nothing beside the error.
func check(m api.Message) ([]byte, api.Errno) { return nil, message.Check(m) }

func bareOf(b []byte) ([]int, api.Errno) {
	from, to, e := message.Bare(b)
	return []int{from, to}, e
}

func again(count int) func(b []byte) ([]byte, api.Errno) {
	return func(b []byte) ([]byte, api.Errno) { return message.Again(b, count) }
}

func lookup(name string) func(m api.Message) (api.Value, api.Errno) {
	return func(m api.Message) (api.Value, api.Errno) { return message.Lookup(m, name), api.OK }
}

func wantMessageStays(t *testing.T, m api.Message) {
	t.Helper()
	wantNew(t, m, message.Encode)
	wantNew(t, m, check)
	for _, name := range []string{"id", "correlation", "to", "count", "0"} {
		wantNew(t, m, lookup(name))
	}
}

func wantBytesStay(t *testing.T, b []byte) {
	t.Helper()
	wantNew(t, b, decode)
	wantNew(t, b, bareOf)
	for _, count := range []int{0, 1, -1} {
		wantNew(t, b, again(count))
	}
}

// DOC.md's R2: what is handed in stays, with its spare room, also where it is refused; what is answered is new memory.
func TestAnswersAreNew(t *testing.T) {
	for _, wrong := range []int{0, 30, 6} {
		c := chances(int64(151+wrong), wrong)
		for range 40 {
			wantMessageStays(t, c.message())
			wantBytesStay(t, slices.Concat(c.wire()...))
		}
	}
	for _, m := range []api.Message{plain(), headed(), full()} {
		wantMessageStays(t, m)
		wantBytesStay(t, encoded(modelSections(m)...))
	}
	wantNew(t, 0, func(int) (api.Message, api.Errno) { return message.Blank(), api.OK })
}

// DOC.md's R2: what Lookup answers is new memory, also of what may not stand where it was found.
func TestLookupsAreNew(t *testing.T) {
	deep := sample.List(sample.List(text("a")), nested(3))
	m := plain()
	m.App, m.Properties.MessageId, m.Properties.Correlation = sample.Pairs(text("k"), deep, text("l"), deep), deep, deep
	for _, name := range []string{"k", "l", "id", "correlation"} {
		wantLookup(t, m, name, deep)
		wantNew(t, m, lookup(name))
	}
}

// DOC.md's R2: what stands alike in two places of the bytes is two lists in the answer.
func TestListsOfAnAnswer(t *testing.T) {
	v := parse(`{symbol "a": [{} [uint 1]], symbol "b": [{} [uint 1]]}`)
	list := sample.List(v, v)
	b := encoded(section(113, v), section(114, v), section(118, list), section(118, list), section(118, sample.List()), section(120, v))
	m, _, e := message.Decode(b)
	if e != api.OK || len(m.Sequences) != 3 || !apart(places(m)) {
		t.Errorf("%s, %d", told(m), e)
	}
	for i := range b {
		b[i] = 0
	}
	if !sample.Same(m.DelAnn, v) || !sample.Same(m.Sequences[1], list) || !sample.Same(m.Footer, v) {
		t.Error("what was read changed with the bytes")
	}
	b = encoded(modelSections(full())...)
	m, _, _ = message.Decode(b)
	copy(b, bytes.Repeat([]byte{'z'}, len(b)))
	if !alike(m, full()) {
		t.Errorf("what was read changed with the bytes: %s", told(m))
	}
}

// DOC.md's R3: no list and an empty one are the same.
func TestEmptyLists(t *testing.T) {
	none := api.Value{List: []api.Value{}}
	empty := []api.Value{}
	m := plain()
	m.DelAnn, m.MsgAnn, m.App, m.Footer, m.Value, m.Sequences = none, none, none, none, none, empty
	m.Properties.MessageId, m.Properties.Correlation = none, none
	wantBytes(t, m, hex(hi))
	m.Properties.Has = true
	m.Properties.MessageId = api.Value{Kind: api.String, List: []api.Value{}}
	wantBytes(t, m, hex("00 53 73 c0 03 01 a1 00 "+hi))
	m = plain()
	m.Body, m.Data, m.Value = api.BodyValue, []string{}, api.Value{Kind: api.Map, List: empty}
	wantBytes(t, m, hex("00 53 77 c1 01 00"))
	m.Body, m.Sequences, m.Value = api.BodySequence, []api.Value{{Kind: api.List, List: empty}}, none
	wantBytes(t, m, hex("00 53 76 45"))
	for _, body := range []int{api.BodyData, api.BodySequence} {
		wantError(t, turned(func(m *api.Message) { m.Body, m.Data, m.Sequences = body, []string{}, empty }), api.ErrBody)
	}
	wantFault(t, []byte{}, 0, api.ErrBody)
	wantFault(t, nil, 0, api.ErrBody)
}

// DOC.md's R6: what came before a call, and what has become of its arguments, doesn't matter.
func TestNothingIsKept(t *testing.T) {
	for range 3 {
		TestBlank(t)
		TestExamplesOfEncode(t)
		TestExamplesOfDecode(t)
		TestExamplesOfBareAndAgain(t)
		TestExamplesOfLookup(t)
		m := message.Blank()
		m.Data[0], m.Header.Priority, m.Properties.To = "other", 9, "other"
		b, _ := message.Encode(full())
		m, _, _ = message.Decode(b)
		scribble(m)
		wantMessage(t, b, full())
	}
}

// DOC.md's R1: calls end and do not panic where things nest ever so deep, or lists and texts are long.
func TestGreatArguments(t *testing.T) {
	deep := sample.Within(1<<16-8, api.Value{})
	great := string(make([]byte, 1<<24))
	for _, c := range []struct {
		turn func(m *api.Message)
		e    api.Errno
	}{
		{func(m *api.Message) { m.DelAnn = sample.Pairs(symbol("a"), deep) }, api.ErrDeep},
		{func(m *api.Message) { m.App = sample.Pairs(text("k"), deep) }, api.ErrDeep},
		{func(m *api.Message) { m.Footer = deep }, api.ErrProps},
		{func(m *api.Message) { m.Properties.MessageId = deep }, api.ErrProps},
		{func(m *api.Message) { m.Properties.Has, m.Properties.MessageId = true, deep }, api.ErrProps},
		{func(m *api.Message) { m.Properties.Has, m.Properties.Correlation = true, text(great) }, api.ErrProps},
		{func(m *api.Message) { m.Properties.Has, m.Properties.UserId = true, great }, api.ErrProps},
		{func(m *api.Message) { m.Properties.Has, m.Properties.To = true, great }, api.ErrProps},
		{func(m *api.Message) { m.Properties.Encoding = great }, api.ErrProps},
		{func(m *api.Message) { m.Value = deep }, api.ErrBody},
		{func(m *api.Message) { m.Body, m.Data, m.Value = api.BodyValue, nil, deep }, api.ErrDeep},
		{func(m *api.Message) { m.Body, m.Data, m.Sequences = api.BodySequence, nil, []api.Value{deep} }, api.ErrDeep},
		{func(m *api.Message) {
			m.Body, m.Data, m.Sequences = api.BodySequence, nil, sample.Many(1<<18+1, sample.List())
		}, api.ErrLong},
		{func(m *api.Message) { m.Body, m.Data, m.Sequences = api.BodySequence, nil, make([]api.Value, 1<<20) }, api.ErrBody},
		{func(m *api.Message) { m.Data = []string{great} }, api.ErrLong},
		{func(m *api.Message) { m.Data = make([]string, 1<<20) }, api.ErrLong},
		{func(m *api.Message) { m.Data = slices.Repeat([]string{great[:1<<19]}, 1<<14) }, api.ErrLong},
		{func(m *api.Message) { m.App = keyed(api.String, 1<<16) }, api.ErrMap},
		{func(m *api.Message) { m.Body = math.MinInt }, api.ErrBody},
		{func(m *api.Message) {
			m.Header = api.Header{Has: true, Priority: math.MaxInt, Ttl: math.MinInt, Count: math.MaxInt}
		}, api.ErrProps},
	} {
		m := turned(c.turn)
		if e := message.Check(m); e != c.e {
			t.Errorf("Check: %d, want %d", e, c.e)
		}
		if b, e := message.Encode(m); e != c.e || len(b) != 0 {
			t.Errorf("Encode: %d bytes, %d, want %d", len(b), e, c.e)
		}
		for name := range maps.Keys(lookups) {
			wantLookup(t, m, name, modelLookup(m, name))
		}
		wantLookup(t, m, "k", modelLookup(m, "k"))
	}
	m := turned(func(m *api.Message) {
		m.Body, m.Data, m.Sequences = api.BodySequence, nil, sample.Many(1<<18, sample.List())
	})
	wantBytes(t, m, bytes.Repeat(hex("00 53 76 45"), 1<<18))
	for _, b := range [][]byte{bytes.Repeat([]byte{0xd0, 0xff}, 1<<19), bytes.Repeat([]byte{0xc0, 0xff, 1}, 1<<18), bytes.Repeat(hex("00 53 75"), 1<<18), bytes.Repeat(hex("00 53 75 a0 00"), 200000), slices.Concat(hex("00 53 77 d0 7f ff ff ff ff ff ff ff"), make([]byte, 1<<19))} {
		m, _, at, e := modelDecode(b)
		if e != api.OK {
			wantFault(t, b, at, e)
		} else {
			wantMessage(t, b, m)
		}
	}
}
