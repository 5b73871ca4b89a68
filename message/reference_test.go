package message_test

import (
	"bytes"
	"reflect"
	"slices"
	"strings"
	"testing"
	"unicode/utf8"

	"longshore/api"
	"longshore/codec"
	"longshore/message"
	"longshore/sample"
	"longshore/shape"
	"longshore/value"
)

// A second program that lays the sections by hand, and reads them by the order of their parts and by the names of their fields; of those below it asks codec, value.Check and shape.Unpack.

// kinds are those of sections.
var kinds = []int{112, 113, 114, 115, 116, 117, 118, 119, 120}

// partOf is the place of the part in a message's order.
var partOf = map[int]int{112: 1, 113: 2, 114: 3, 115: 4, 116: 5, 117: 6, 118: 6, 119: 6, 120: 7}

const thePartOfBodies = 6

var words = map[int]string{112: "header:list", 113: "delivery-annotations:map", 114: "message-annotations:map", 115: "properties:list", 116: "application-properties:map", 117: "data:binary", 118: "sequence:list", 119: "value:any", 120: "footer:map"}

// section is a value described by its kind's number.
func section(kind int, v api.Value) api.Value {
	return sample.Described(sample.Num(api.Ulong, uint64(kind)), v)
}

// byName is a value described by its kind's name.
func byName(kind int, v api.Value) api.Value {
	return sample.Described(symbol("longshore:"+words[kind]), v)
}

func kindOf(v api.Value) int {
	for _, kind := range kinds {
		if v.Kind == api.Described && (sample.Same(v.List[0], section(kind, v).List[0]) || sample.Same(v.List[0], byName(kind, v).List[0])) {
			return kind
		}
	}
	return 0
}

// fieldOf is a field of a struct of api on the wire, and its type there.
type fieldOf struct {
	name string
	kind int
}

var (
	headerFields     = []fieldOf{{"Durable", api.Bool}, {"Priority", api.Ubyte}, {"Ttl", api.Uint}, {"First", api.Bool}, {"Count", api.Uint}}
	propertiesFields = []fieldOf{{"MessageId", api.AnyValue}, {"UserId", api.Binary}, {"To", api.String}, {"Subject", api.String}, {"ReplyTo", api.String}, {"Correlation", api.AnyValue}, {"ContentType", api.Symbol}, {"Encoding", api.Symbol}, {"Expiry", api.Time}, {"Created", api.Time}, {"Group", api.String}, {"Sequence", api.Uint}, {"ReplyGroup", api.String}}
)

// modelComposite lays the fields of a header or of properties, nothing where there is nothing to be said.
func modelComposite(kind int, x, blank any, fields []fieldOf) api.Value {
	var l []api.Value
	for _, f := range fields {
		field := reflect.ValueOf(x).FieldByName(f.name)
		v := api.Value{}
		if !sameIn(field, reflect.ValueOf(blank).FieldByName(f.name)) {
			v.Kind = f.kind
			switch said := field.Interface().(type) {
			case bool:
				v.Num = 1
			case int:
				v.Num = uint64(said)
			case string:
				v.Text = said
			case api.Value:
				v = said
			}
		}
		l = append(l, v)
	}
	for len(l) > 0 && l[len(l)-1].Kind == api.Null {
		l = l[:len(l)-1]
	}
	return section(kind, sample.List(l...))
}

// modelSections are the sections of a message whose parts may be.
func modelSections(m api.Message) []api.Value {
	var l []api.Value
	if m.Header.Has {
		l = append(l, modelComposite(112, m.Header, noHeader, headerFields))
	}
	if m.DelAnn.Kind == api.Map {
		l = append(l, section(113, m.DelAnn))
	}
	if m.MsgAnn.Kind == api.Map {
		l = append(l, section(114, m.MsgAnn))
	}
	if m.Properties.Has {
		l = append(l, modelComposite(115, m.Properties, noProperties, propertiesFields))
	}
	if m.App.Kind == api.Map {
		l = append(l, section(116, m.App))
	}
	switch m.Body {
	case 1:
		for _, s := range m.Data {
			l = append(l, section(117, octets(s)))
		}
	case 2:
		for _, v := range m.Sequences {
			l = append(l, section(118, v))
		}
	case 3:
		l = append(l, section(119, m.Value))
	}
	if m.Footer.Kind == api.Map {
		l = append(l, section(120, m.Footer))
	}
	return l
}

// modelEncode is a message's bytes, or why it has none.
func modelEncode(m api.Message) ([]byte, api.Errno) {
	for _, ask := range []func(m api.Message) api.Errno{
		modelHeader,
		func(m api.Message) api.Errno { return modelMap(m.DelAnn, isAnnotation, isAny) },
		func(m api.Message) api.Errno { return modelMap(m.MsgAnn, isAnnotation, isAny) },
		func(m api.Message) api.Errno { return modelProperties(m.Properties) },
		func(m api.Message) api.Errno { return modelMap(m.App, isString, isSimple) },
		modelBody,
		func(m api.Message) api.Errno { return modelMap(m.Footer, isAnnotation, isAny) },
	} {
		if e := ask(m); e != api.OK {
			return nil, e
		}
	}
	var all []byte
	for _, v := range modelSections(m) {
		b, e := codec.Encode(v)
		if e != api.OK {
			return nil, e
		}
		all = append(all, b...)
	}
	if len(all) > 1048576 {
		return nil, api.ErrLong
	}
	return all, api.OK
}

// within tells whether a number is one of those from the least to the most.
func within(n, least, most int) bool { return least <= n && n <= most }

func modelHeader(m api.Message) api.Errno {
	h := m.Header
	switch {
	case !h.Has && (h.Durable || h.First || h.Priority != 4 || h.Ttl != -1 || h.Count != 0):
		return api.ErrProps
	case !within(h.Priority, 0, 255) || !within(h.Ttl, -1, 4294967295) || !within(h.Count, 0, 4294967295):
		return api.ErrProps
	}
	return api.OK
}

func modelMap(v api.Value, keyMay, valueMay func(api.Value) bool) api.Errno {
	if v.Kind != api.Null && v.Kind != api.Map {
		return api.ErrProps
	}
	if e := value.Check(v); e != api.OK {
		return e
	}
	for i, part := range v.List {
		if i%2 == 0 && !keyMay(part) || i%2 == 1 && !valueMay(part) {
			return api.ErrProps
		}
	}
	return api.OK
}

func modelProperties(p api.Properties) api.Errno {
	if !p.Has && !alike(p, noProperties) {
		return api.ErrProps
	}
	v := reflect.ValueOf(p)
	for _, f := range propertiesFields {
		if !modelMayBe(f, v.FieldByName(f.name).Interface()) {
			return api.ErrProps
		}
	}
	return api.OK
}

// modelMayBe tells whether a field of the properties may be so.
func modelMayBe(f fieldOf, x any) bool {
	switch x := x.(type) {
	case int:
		return f.kind == api.Time && within(x, -1, 1<<50) || f.kind == api.Uint && within(x, -1, 1<<32-1)
	case string:
		return len(x) <= 4096 && (f.kind == api.Binary || utf8.ValidString(x) && (f.kind == api.String || len(x) == len([]rune(x))))
	case api.Value:
		switch x.Kind {
		case api.Null, api.Ulong, api.Uuid, api.Binary, api.String:
			return value.Check(x) == api.OK && len(x.Text) <= 4096
		}
	}
	return false
}

func modelBody(m api.Message) api.Errno {
	has := [4]bool{false, len(m.Data) > 0, len(m.Sequences) > 0, !sample.Same(m.Value, api.Value{})}
	for body := 1; body <= 3; body++ {
		if body != m.Body && has[body] || body == m.Body && body < 3 && !has[body] {
			return api.ErrBody
		}
	}
	for _, v := range m.Sequences {
		if v.Kind != api.List {
			return api.ErrBody
		}
	}
	if !within(m.Body, 1, 3) {
		return api.ErrBody
	}
	for _, v := range append(append([]api.Value{}, m.Sequences...), m.Value) {
		if e := value.Check(v); e != api.OK {
			return e
		}
	}
	return api.OK
}

// found is a section that was read: its kind, where it begins and ends.
type found struct{ kind, from, to int }

// modelDecode reads a message, and tells its sections.
func modelDecode(b []byte) (m api.Message, l []found, at int, e api.Errno) {
	if len(b) > 1048576 {
		return api.Message{}, nil, 0, api.ErrLong
	}
	m = api.Message{Header: noHeader, Properties: noProperties}
	for at < len(b) {
		v, next, e := codec.Decode(b, at)
		if e != api.OK {
			return api.Message{}, nil, next, e
		}
		kind := kindOf(v)
		if e := modelOrder(l, kind); e != api.OK {
			return api.Message{}, nil, at, e
		}
		if e := modelRead(&m, kind, v); e != api.OK {
			return api.Message{}, nil, at, e
		}
		l = append(l, found{kind, at, next})
		at = next
	}
	if m.Body == 0 {
		return api.Message{}, nil, len(b), api.ErrBody
	}
	return m, l, 0, api.OK
}

func modelOrder(l []found, kind int) api.Errno {
	if kind == 0 {
		return api.ErrSection
	}
	if len(l) > 0 {
		last := l[len(l)-1].kind
		switch {
		case partOf[last] > partOf[kind]:
			return api.ErrSection
		case partOf[last] == thePartOfBodies && partOf[kind] == thePartOfBodies && last != kind:
			return api.ErrBody
		case last == kind && kind != 117 && kind != 118:
			return api.ErrSection
		}
	}
	if kind == 120 && !slices.ContainsFunc(l, func(s found) bool { return partOf[s.kind] == thePartOfBodies }) {
		return api.ErrBody
	}
	return api.OK
}

func modelRead(m *api.Message, kind int, v api.Value) api.Errno {
	inner := v.List[1]
	switch kind {
	case 112:
		m.Header.Has = true
		return modelUnpack(reflect.ValueOf(&m.Header).Elem(), v, headerFields)
	case 115:
		m.Properties.Has = true
		return modelUnpack(reflect.ValueOf(&m.Properties).Elem(), v, propertiesFields)
	case 113, 114, 120:
		*map[int]*api.Value{113: &m.DelAnn, 114: &m.MsgAnn, 120: &m.Footer}[kind] = inner
		if inner.Kind != api.Map {
			return api.ErrSection
		}
		return modelMap(inner, isAnnotation, isAny)
	case 116:
		m.App = inner
		if inner.Kind != api.Map {
			return api.ErrSection
		}
		return modelMap(inner, isString, isSimple)
	case 117:
		m.Body, m.Data = 1, append(m.Data, inner.Text)
		if inner.Kind != api.Binary {
			return api.ErrSection
		}
	case 118:
		m.Body, m.Sequences = 2, append(m.Sequences, inner)
		if inner.Kind != api.List {
			return api.ErrSection
		}
	case 119:
		m.Body, m.Value = 3, inner
	}
	return api.OK
}

func modelUnpack(into reflect.Value, v api.Value, fields []fieldOf) api.Errno {
	r, _, e := shape.Unpack(v)
	if e != api.OK {
		return e
	}
	for i, f := range fields {
		field, said := into.FieldByName(f.name), r.Fields[i]
		if said.Kind == api.Null {
			continue
		}
		switch field.Kind() {
		case reflect.Bool:
			field.SetBool(said.Num == 1)
		case reflect.String:
			field.SetString(said.Text)
		case reflect.Int:
			if f.kind == api.Time && int64(said.Num) < 0 {
				return api.ErrProps
			}
			field.SetInt(int64(said.Num))
		default:
			field.Set(reflect.ValueOf(said))
		}
		if len(fields) == len(propertiesFields) && !modelMayBe(f, field.Interface()) {
			return api.ErrProps
		}
	}
	return api.OK
}

func modelBare(b []byte) (int, int, api.Errno) {
	_, l, _, e := modelDecode(b)
	from, to := -1, 0
	for _, s := range l {
		if part := partOf[s.kind]; part >= 4 && part <= thePartOfBodies {
			if from < 0 {
				from = s.from
			}
			to = s.to
		}
	}
	return max(from, 0), to, e
}

func modelAgain(b []byte, count int) ([]byte, api.Errno) {
	if !within(count, 0, 4294967295) {
		return nil, api.ErrArg
	}
	m, l, _, e := modelDecode(b)
	if e != api.OK {
		return nil, e
	}
	if !m.Header.Has && count == 0 {
		return b, api.OK
	}
	m.Header.Has, m.Header.Count = true, count
	head := encoded(modelComposite(112, m.Header, noHeader, headerFields))
	for _, s := range l {
		if s.kind != 112 {
			head = append(head, b[s.from:s.to]...)
		}
	}
	if len(head) > 1048576 {
		return nil, api.ErrLong
	}
	return head, api.OK
}

// lookups are the names that mean a part of the header or of the properties: the field, and the kind of its value.
var lookups = map[string]fieldOf{
	"priority": {"Header.Priority", api.Ubyte}, "durable": {"Header.Durable", api.Bool}, "first": {"Header.First", api.Bool}, "ttl": {"Header.Ttl", api.Uint}, "count": {"Header.Count", api.Uint},
	"id": {"Properties.MessageId", api.AnyValue}, "correlation": {"Properties.Correlation", api.AnyValue}, "user": {"Properties.UserId", api.Binary}, "to": {"Properties.To", api.String}, "subject": {"Properties.Subject", api.String}, "reply-to": {"Properties.ReplyTo", api.String}, "group": {"Properties.Group", api.String}, "content-type": {"Properties.ContentType", api.Symbol}, "sequence": {"Properties.Sequence", api.Uint},
}

func modelLookup(m api.Message, name string) api.Value {
	f, is := lookups[name]
	if !is {
		for i := 0; m.App.Kind == api.Map && i+1 < len(m.App.List); i += 2 {
			if sample.Same(m.App.List[i], text(name)) {
				return m.App.List[i+1]
			}
		}
		return api.Value{}
	}
	switch x := named(reflect.ValueOf(m), f.name).Interface().(type) {
	case bool:
		return sample.Num(f.kind, map[bool]uint64{true: 1}[x])
	case string:
		if x == "" {
			return api.Value{}
		}
		return sample.Text(f.kind, x)
	case int:
		if x < 0 && (strings.HasSuffix(f.name, "Ttl") || strings.HasSuffix(f.name, "Sequence")) {
			return api.Value{}
		}
		return sample.Num(f.kind, uint64(x)&map[int]uint64{api.Ubyte: 0xff, api.Uint: 0xffffffff}[f.kind])
	case api.Value:
		return x
	}
	panic(name)
}

// wantAsModel holds Check and Encode against the second program, and where there are bytes Decode, too.
func wantAsModel(t *testing.T, m api.Message) api.Errno {
	t.Helper()
	want, e := modelEncode(m)
	if e != api.OK {
		wantError(t, m, e)
	} else {
		wantBytes(t, m, want)
	}
	return e
}

// wantReadAsModel holds Decode, Bare and Again against the second program.
func wantReadAsModel(t *testing.T, b []byte) api.Errno {
	t.Helper()
	m, _, at, e := modelDecode(b)
	if e != api.OK {
		wantFault(t, b, at, e)
		return e
	}
	wantMessage(t, b, m)
	wantBare(t, b)
	for _, count := range []int{0, 1, 300} {
		wantAgain(t, b, count)
	}
	return e
}

func wantBare(t *testing.T, b []byte) {
	t.Helper()
	from, to, e := modelBare(b)
	if gotFrom, gotTo, got := message.Bare(b); gotFrom != from || gotTo != to || got != e {
		t.Errorf("Bare(%s): %d, %d, %d, want %d, %d, %d", briefBytes(b), gotFrom, gotTo, got, from, to, e)
	}
}

func wantAgain(t *testing.T, b []byte, count int) {
	t.Helper()
	want, e := modelAgain(b, count)
	if again, got := message.Again(b, count); !bytes.Equal(again, want) || got != e {
		t.Errorf("Again(%s, %d): %s, %d, want %s, %d", briefBytes(b), count, briefBytes(again), got, briefBytes(want), e)
	}
}

func wantLookup(t *testing.T, m api.Message, name string, want api.Value) {
	t.Helper()
	if v := message.Lookup(m, name); !sample.Same(v, want) {
		t.Errorf("Lookup(%s, %q): %s, want %s", brief(told(m)), name, brief(told(v)), brief(told(want)))
	}
}
