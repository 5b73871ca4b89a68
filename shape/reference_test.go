package shape_test

import (
	"slices"
	"strconv"
	"strings"
	"testing"

	"longshore/api"
	"longshore/note"
	"longshore/sample"
	"longshore/shape"
	"longshore/value"
)

// kindRows are the rows of the chapter's table of kinds: the first number (hexadecimal), the words of it and of those behind it, the last word.
const kindRows = `10: open begin attach flow transfer disposition detach end close; list
1d: fault; list
23: received accepted rejected released modified source target; list
30: coordinator declare discharge declared transactional; list
40: mechanisms init challenge response outcome; list
70: header; list
73: properties; list
71: delivery-annotations message-annotations; map
74: application-properties; map
78: footer; map
75: data; binary
76: sequence; list
77: value; any`

// fieldRows are the chapter's lists of fields.
const fieldRows = `open: id String!, host String, max-frame Uint = 4294967295, channel-max Ushort = 65535, idle Uint, props Map
begin: remote Ushort, next-out Uint!, in-window Uint!, out-window Uint!, handle-max Uint = 4294967295, props Map
attach: name String!, handle Uint!, role Bool!, snd-mode Ubyte = 2, rcv-mode Ubyte = 0, source Composite(source), target Composite(target coordinator), unsettled Map, incomplete Bool = false, initial-count Uint, max-message Ulong, props Map
flow: next-in Uint, in-window Uint!, next-out Uint!, out-window Uint!, handle Uint, count Uint, credit Uint, available Uint, drain Bool = false, echo Bool = false, props Map
transfer: handle Uint!, id Uint, tag Binary, format Uint, settled Bool, more Bool = false, state Composite(states), resume Bool = false, aborted Bool = false, batchable Bool = false
disposition: role Bool!, first Uint!, last Uint, settled Bool = false, state Composite(states), batchable Bool = false
detach: handle Uint!, closed Bool = false, fault Composite(fault)
end: fault Composite(fault)
close: fault Composite(fault)
fault: cond Symbol!, text String, info Map
received: section Uint!, offset Ulong!
accepted:
released:
declare:
rejected: fault Composite(fault)
modified: failed Bool, elsewhere Bool, ann Map
source: address String, durable Uint = 0, expiry Symbol = session-end, timeout Uint = 0, dynamic Bool = false, mode Symbol, filter String, default Composite(outcomes), outcomes Symbols, caps Symbols
target: address String, durable Uint = 0, expiry Symbol = session-end, timeout Uint = 0, dynamic Bool = false, caps Symbols
coordinator: caps Symbols
discharge: txn Binary!, fail Bool = false
declared: txn Binary!
transactional: txn Binary!, outcome Composite(outcomes)
mechanisms: mechs Symbols!
init: mech Symbol!, response Binary, host String
challenge: challenge Binary!
response: response Binary!
outcome: code Ubyte!, data Binary
header: durable Bool = false, priority Ubyte = 4, ttl Uint, first Bool = false, count Uint = 0
properties: message-id AnyValue, user-id Binary, to String, subject String, reply-to String, correlation AnyValue, content-type Symbol, encoding Symbol, expiry Time, created Time, group String, sequence Uint, reply-group String`

var (
	names  = readNames()
	fields = readFields()
)

// readNames are the kinds' names by their numbers.
func readNames() map[int]string {
	m := map[int]string{}
	for _, row := range strings.Split(kindRows, "\n") {
		first, rest, _ := strings.Cut(row, ": ")
		words, form, _ := strings.Cut(rest, "; ")
		n, err := strconv.ParseInt(first, 16, 0)
		if err != nil {
			panic(err)
		}
		for i, word := range strings.Fields(words) {
			m[int(n)+i] = "longshore:" + word + ":" + form
		}
	}
	return m
}

// numberOf is the number of the composite of a word.
func numberOf(word string) int {
	for n, name := range names {
		if name == "longshore:"+word+":list" {
			return n
		}
	}
	panic("no kind: " + word)
}

// readFields are the composites' fields by the kinds' numbers.
func readFields() map[int][]api.Field {
	m := map[int][]api.Field{}
	for _, row := range strings.Split(fieldRows, "\n") {
		word, rest, _ := strings.Cut(row, ":")
		l := []api.Field{}
		for _, f := range strings.Split(strings.TrimSpace(rest), ", ") {
			if f != "" {
				l = append(l, readField(f))
			}
		}
		m[numberOf(word)] = l
	}
	return m
}

var types = map[string]int{"Bool": 1, "Ubyte": 2, "Ushort": 3, "Uint": 4, "Ulong": 5, "Time": 16, "Binary": 18, "String": 19, "Symbol": 20, "Map": 22, "AnyValue": 100, "Symbols": 101, "Composite": 102}

func readField(s string) api.Field {
	head, normal, _ := strings.Cut(s, " = ")
	name, kind, _ := strings.Cut(head, " ")
	kind, must := strings.CutSuffix(kind, "!")
	kind, within, _ := strings.Cut(kind, "(")
	f := api.Field{Name: name, Type: types[kind], Must: must, Kinds: readKinds(strings.TrimSuffix(within, ")"))}
	if f.Type == 0 {
		panic("no type: " + s)
	}
	n, _ := strconv.ParseUint(normal, 10, 64)
	switch {
	case normal == "":
	case kind == "Symbol":
		f.Default = api.Value{Kind: f.Type, Text: normal}
	default:
		f.Default = api.Value{Kind: f.Type, Num: n}
	}
	return f
}

func readKinds(s string) []int {
	s = strings.ReplaceAll(s, "states", "received outcomes declared transactional")
	s = strings.ReplaceAll(s, "outcomes", "accepted rejected released modified")
	var l []int
	for _, word := range strings.Fields(s) {
		l = append(l, numberOf(word))
	}
	return l
}

// composites are the composites' numbers, rising.
func composites() []int {
	var l []int
	for n := range 256 {
		if _, is := fields[n]; is {
			l = append(l, n)
		}
	}
	return l
}

// A second program that does what the chapter's words say one by one; of those below it asks value.Check alone.

func modelKind(v api.Value) int {
	if v.Kind != api.Described || len(v.List) != 2 {
		return 0
	}
	for n, name := range names {
		if sample.Same(v.List[0], sample.Num(api.Ulong, uint64(n))) || sample.Same(v.List[0], sample.Text(api.Symbol, name)) {
			return n
		}
	}
	return 0
}

// suitsKind tells whether a value that is not Null is of the kind that a field wants.
func suitsKind(f api.Field, v api.Value) bool {
	switch f.Type {
	case api.AnyValue:
		return true
	case api.Symbols:
		return v.Kind == api.Array && v.Elem == api.Symbol
	case api.Composite:
		return slices.Contains(f.Kinds, modelKind(v))
	}
	return v.Kind == f.Type
}

func modelCheck(r api.Record) api.Errno {
	l, is := fields[r.Kind]
	if !is {
		return api.ErrComposite
	}
	if len(r.Fields) != len(l) {
		return api.ErrFields
	}
	for i, f := range l {
		v := r.Fields[i]
		if v.Kind == api.Null && f.Must {
			return api.ErrMust
		}
		if e := value.Check(v); e != api.OK {
			return e
		}
		if v.Kind == api.Null {
			continue
		}
		if !suitsKind(f, v) {
			return api.ErrField
		}
		if f.Type == api.Composite {
			if _, _, e := modelUnpack(v); e != api.OK {
				return e
			}
		}
	}
	if depth(modelMake(r)) > 32 {
		return api.ErrDeep
	}
	return api.OK
}

func depth(v api.Value) int {
	deepest := 0
	for _, part := range v.List {
		deepest = max(deepest, depth(part))
	}
	return 1 + deepest
}

// modelMake is what Pack makes of a record that is as Check wants it, but perhaps too deep.
func modelMake(r api.Record) api.Value {
	var l []api.Value
	for i, f := range fields[r.Kind] {
		v := r.Fields[i]
		if sample.Same(v, f.Default) {
			v = api.Value{}
		}
		if f.Type == api.Composite && v.Kind != api.Null {
			inner, _, _ := modelUnpack(v)
			v = modelMake(inner)
		}
		l = append(l, v)
	}
	for len(l) > 0 && l[len(l)-1].Kind == api.Null {
		l = l[:len(l)-1]
	}
	return composite(r.Kind, l...)
}

func modelPack(r api.Record) (api.Value, api.Errno) {
	if e := modelCheck(r); e != api.OK {
		return api.Value{}, e
	}
	return modelMake(r), api.OK
}

func modelUnpack(v api.Value) (api.Record, int, api.Errno) {
	if e := value.Check(v); e != api.OK {
		return api.Record{}, 0, e
	}
	kind := modelKind(v)
	l, is := fields[kind]
	if !is || v.List[1].Kind != api.List {
		return api.Record{}, 0, api.ErrComposite
	}
	if len(v.List[1].List) > len(l) {
		return api.Record{}, len(l), api.ErrFields
	}
	r := api.Record{Kind: kind}
	for i, f := range l {
		part := api.Value{}
		if i < len(v.List[1].List) {
			part = v.List[1].List[i]
		}
		part, e := modelField(f, part)
		if e != api.OK {
			return api.Record{}, i, e
		}
		r.Fields = append(r.Fields, part)
	}
	return r, 0, api.OK
}

func modelField(f api.Field, v api.Value) (api.Value, api.Errno) {
	if v.Kind == api.Null {
		if f.Must {
			return api.Value{}, api.ErrMust
		}
		return f.Default, api.OK
	}
	if f.Type == api.Symbols && v.Kind == api.Symbol {
		v = sample.Array(api.Symbol, v)
	}
	if !suitsKind(f, v) {
		return api.Value{}, api.ErrField
	}
	if f.Type != api.Composite {
		return v, api.OK
	}
	r, _, e := modelUnpack(v)
	if e != api.OK {
		return api.Value{}, e
	}
	return modelMake(r), api.OK
}

// composite is a described list, by its kind's number.
func composite(kind int, l ...api.Value) api.Value {
	return sample.Described(sample.Num(api.Ulong, uint64(kind)), sample.List(l...))
}

// byName is a described list, by its kind's name.
func byName(kind int, l ...api.Value) api.Value {
	return sample.Described(sample.Text(api.Symbol, names[kind]), sample.List(l...))
}

func record(kind int, l ...api.Value) api.Record { return api.Record{Kind: kind, Fields: l} }

// parse is the value of a text; parts are the parts of a list's text.
func parse(s string) api.Value {
	v, at, e := note.Parse(s)
	if e != api.OK {
		panic(s + ": a fault at " + strconv.Itoa(at))
	}
	return v
}

func parts(s string) []api.Value { return parse("[" + s + "]").List }

func told(r api.Record) string {
	return strconv.Itoa(r.Kind) + " " + sample.Written(sample.List(r.Fields...))
}

func same(a, b api.Record) bool {
	return a.Kind == b.Kind && slices.EqualFunc(a.Fields, b.Fields, sample.Same)
}

func wantUnpack(t *testing.T, v api.Value, want api.Record) {
	t.Helper()
	r, at, e := shape.Unpack(v)
	if e != api.OK || at != 0 || !same(r, want) {
		t.Errorf("Unpack(%s): %s, %d, %d, want %s", sample.Written(v), told(r), at, e, told(want))
	}
}

func wantUnpackError(t *testing.T, v api.Value, at int, e api.Errno) {
	t.Helper()
	r, gotAt, got := shape.Unpack(v)
	if got != e || gotAt != at || !same(r, api.Record{}) {
		t.Errorf("Unpack(%s): %s, %d, %d, want nothing, %d, %d", sample.Written(v), told(r), gotAt, got, at, e)
	}
}

func wantPack(t *testing.T, r api.Record, want api.Value) {
	t.Helper()
	v, e := shape.Pack(r)
	if e != api.OK || !sample.Same(v, want) {
		t.Errorf("Pack(%s): %s, %d, want %s", told(r), sample.Written(v), e, sample.Written(want))
	}
	if e := shape.Check(r); e != api.OK {
		t.Errorf("Check(%s): %d", told(r), e)
	}
}

func wantPackError(t *testing.T, r api.Record, want api.Errno) {
	t.Helper()
	v, e := shape.Pack(r)
	if e != want || !sample.Same(v, api.Value{}) {
		t.Errorf("Pack(%s): %s, %d, want nothing, %d", told(r), sample.Written(v), e, want)
	}
	if e := shape.Check(r); e != want {
		t.Errorf("Check(%s): %d, want %d", told(r), e, want)
	}
}

// wantAsModel holds Unpack of a value against the second program.
func wantAsModel(t *testing.T, v api.Value) {
	t.Helper()
	if r, at, e := modelUnpack(v); e == api.OK {
		wantUnpack(t, v, r)
	} else {
		wantUnpackError(t, v, at, e)
	}
	if kind, is := shape.Kind(v); kind != modelKind(v) || is != (kind > 0) {
		t.Errorf("Kind(%s): %d, %v", sample.Written(v), kind, is)
	}
}

// wantRecordAsModel holds Check and Pack of a record against the second program.
func wantRecordAsModel(t *testing.T, r api.Record) {
	t.Helper()
	if v, e := modelPack(r); e == api.OK {
		wantPack(t, r, v)
	} else {
		wantPackError(t, r, e)
	}
}
