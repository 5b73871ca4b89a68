package message_test

import (
	"bytes"
	"fmt"
	"math"
	"reflect"
	"strconv"
	"strings"
	"testing"

	"longshore/api"
	"longshore/codec"
	"longshore/message"
	"longshore/note"
	"longshore/sample"
)

func long(n int) string { return strings.Repeat("x", n) }

func text(s string) api.Value { return sample.Text(api.String, s) }

func symbol(s string) api.Value { return sample.Text(api.Symbol, s) }

func octets(s string) api.Value { return sample.Text(api.Binary, s) }

// nested is a map that is so deep, with keys that may stand in annotations.
func nested(deep int) api.Value {
	v := sample.Pairs()
	for range deep - 1 {
		v = sample.Pairs(symbol("in"), v)
	}
	return v
}

// keyed are n pairs: keys of a kind, and Null behind each.
func keyed(kind, n int) api.Value {
	v := sample.Pairs()
	for i := range n {
		key := api.Value{Kind: kind}
		if kind == api.Ulong {
			key.Num = uint64(i)
		} else {
			key.Text = strconv.Itoa(i)
		}
		v.List = append(v.List, key, api.Value{})
	}
	return v
}

// What stands in a message in which nothing is said.
var (
	noHeader     = api.Header{Priority: 4, Ttl: -1}
	noProperties = api.Properties{Expiry: -1, Created: -1, Sequence: -1}
)

// plain is the chapter's m: a message with nothing but a body of two bytes.
func plain() api.Message {
	return api.Message{Header: noHeader, Properties: noProperties, Body: api.BodyData, Data: []string{"hi"}}
}

// turned is plain, changed.
func turned(turn func(m *api.Message)) api.Message {
	m := plain()
	turn(&m)
	return m
}

// headed is the chapter's h.
func headed() api.Message {
	return turned(func(m *api.Message) { m.Header.Has, m.Header.Durable = true, true })
}

// said is plain with properties, in which something is said.
func said(turn func(p *api.Properties)) api.Message {
	return turned(func(m *api.Message) {
		m.Properties.Has = true
		turn(&m.Properties)
	})
}

// full has all parts, and says something in each field.
func full() api.Message {
	return api.Message{
		Header: api.Header{Has: true, Durable: true, Priority: 9, Ttl: 1000, First: true, Count: 2},
		DelAnn: sample.Pairs(symbol("d"), nested(2)), MsgAnn: sample.Pairs(sample.Num(api.Ulong, 7), sample.List(text("m"))),
		Properties: api.Properties{
			Has: true, MessageId: sample.Num(api.Ulong, 5), UserId: "\xff", To: "queue/q", Subject: "é", ReplyTo: "queue/r", Correlation: text("c"), ContentType: "text/plain", Encoding: "gzip",
			Expiry: 99, Created: 11, Group: "g", Sequence: 3, ReplyGroup: "h",
		},
		App:  sample.Pairs(text("k"), sample.Num(api.Int, 5), text("to"), text("there")),
		Body: api.BodySequence, Sequences: []api.Value{sample.List(), sample.List(nested(2), text("s"))},
		Footer: sample.Pairs(symbol("f"), sample.Array(api.Symbol, symbol("a"))),
	}
}

// hi is what plain is on the wire.
const hi = "00 53 75 a0 02 68 69"

// named is a part of something of api, by the names that lead to it.
func named(x reflect.Value, path string) reflect.Value {
	for _, name := range strings.Split(path, ".") {
		x = x.FieldByName(name)
	}
	return x
}

// with is a message one field of which is x; where it is one of the header or of the properties, these are there.
func with(m api.Message, path string, x any) api.Message {
	v := reflect.ValueOf(&m).Elem()
	if part, _, within := strings.Cut(path, "."); within {
		v.FieldByName(part).FieldByName("Has").SetBool(true)
	}
	named(v, path).Set(reflect.ValueOf(x))
	return m
}

// choice is a field, by the names that lead to it, with what may stand in it and what may not.
type choice struct {
	path      string
	good, bad []any
}

func numbers(least, most int) ([]any, []any) {
	var good, bad []any
	for _, n := range []int{math.MinInt, math.MinInt32, -4294967296, -3, -2, -1, 0, 1, 3, 4, 5, 127, 128, 254, 255, 256, 257, 65535, 1<<31 - 1, 1 << 31, api.MaxWord - 1, api.MaxWord, api.MaxWord + 1, api.MaxWord + 5, api.MaxTime - 1, api.MaxTime, api.MaxTime + 1, math.MaxInt} {
		if least <= n && n <= most {
			good = append(good, n)
		} else {
			bad = append(bad, n)
		}
	}
	return good, bad
}

var (
	goodTexts = []any{"", "a", "\x00", "\x7f", "é\u20ac\U0010ffff", long(255), long(256), long(4095), long(4096), long(4094) + "é"}
	badTexts  = []any{long(4097), long(5000), long(4095) + "é", "\x80", "\xff", "a\xc3", "\xed\xa0\x80", "\xc0\x80", "\xf4\x90\x80\x80", long(4095) + "\xc3", long(4096) + "\xff"}
	goodPlain = []any{"", "a", "\x00", "\x7f", "text/plain", long(4095) + "\x7f", long(4096)}
	badPlain  = []any{long(4097), "\x80", "\xff", "é", "a\x80", long(4095) + "\x80"}
	goodUsers = []any{"", "a", "\x00", "\x80", "\xff", long(4096), strings.Repeat("\xff", 4096), "é"}
	badUsers  = []any{long(4097), strings.Repeat("\xff", 4097), long(1 << 20)}

	goodIds = []any{
		api.Value{}, sample.Num(api.Ulong, 0), sample.Num(api.Ulong, 255), sample.Num(api.Ulong, 256), sample.Num(api.Ulong, math.MaxUint64), sample.Text(api.Uuid, "0123456789abcdef"), sample.Text(api.Uuid, strings.Repeat("\xff", 16)),
		octets(""), octets("\xff"), octets(long(4096)), text(""), text("é"), text("\x00"), text(long(4096)), text(long(4094) + "é"),
	}
	badIds = []any{
		octets(long(4097)), text(long(4097)), text(long(4095) + "é"), text("\xff"), text("a\xc3"), sample.Text(api.Uuid, ""), sample.Text(api.Uuid, long(15)), sample.Text(api.Uuid, long(17)), sample.Text(api.Null, "a"), sample.Num(api.Null, 1), api.Value{Elem: 1}, api.Value{List: []api.Value{{}}}, sample.Text(api.Ulong, "a"), sample.Num(api.String, 1), api.Value{Kind: api.Binary, List: []api.Value{{}}}, api.Value{Kind: api.Ulong, Elem: 2},
		sample.Num(api.Bool, 0), sample.Num(api.Ubyte, 1), sample.Num(api.Ushort, 1), sample.Num(api.Uint, 1), sample.Num(api.Byte, 1), sample.Num(api.Short, 1), sample.Num(api.Int, 1), sample.Num(api.Long, 1), sample.Num(api.Float, 1), sample.Num(api.Double, 1), sample.Num(api.Dec32, 1), sample.Num(api.Dec64, 1), sample.Text(api.Dec128, "0123456789abcdef"), sample.Num(api.Char, 97), sample.Num(api.Time, 1), symbol("a"), sample.List(), sample.Pairs(), sample.Array(api.Ulong), sample.Described(text("a"), text("b")), sample.Num(-1, 0), sample.Num(25, 0), sample.Within(33, api.Value{}),
	}
)

// fields are those of the header and of the properties, with what may stand in them and what may not.
var fields = allFields()

func allFields() []choice {
	l := []choice{
		{"Header.Durable", []any{false, true}, nil}, {"Header.First", []any{false, true}, nil},
		{"Properties.MessageId", goodIds, badIds}, {"Properties.Correlation", goodIds, badIds}, {"Properties.UserId", goodUsers, badUsers},
		{"Properties.ContentType", goodPlain, badPlain}, {"Properties.Encoding", goodPlain, badPlain},
	}
	for _, name := range []string{"To", "Subject", "ReplyTo", "Group", "ReplyGroup"} {
		l = append(l, choice{"Properties." + name, goodTexts, badTexts})
	}
	for _, n := range []struct {
		path        string
		least, most int
	}{{"Header.Priority", 0, 255}, {"Header.Ttl", -1, api.MaxWord}, {"Header.Count", 0, api.MaxWord}, {"Properties.Expiry", -1, api.MaxTime}, {"Properties.Created", -1, api.MaxTime}, {"Properties.Sequence", -1, api.MaxWord}} {
		good, bad := numbers(n.least, n.most)
		l = append(l, choice{n.path, good, bad})
	}
	return l
}

// wrong is what may not stand in a part, and the error that says so.
type wrong struct {
	v api.Value
	e api.Errno
}

// ofEachKind is a value of each kind but Null.
func ofEachKind() []api.Value {
	var l []api.Value
	for kind := api.Bool; kind <= api.Time; kind++ {
		if kind != api.Dec128 {
			l = append(l, sample.Num(kind, 1))
		}
	}
	sixteen := "0123456789abcdef"
	return append(l, sample.Text(api.Dec128, sixteen), sample.Text(api.Uuid, sixteen), octets("a"), text("a"), symbol("a"), sample.List(), sample.Pairs(), sample.Array(api.Uint), sample.Described(symbol("a"), api.Value{}))
}

// mapsOf are what may stand in a part that is a map, and what may not; a key, a value may be as is told.
func mapsOf(keyMay, valueMay func(v api.Value) bool) ([]api.Value, []wrong) {
	good := []api.Value{{}, sample.Pairs(), {List: []api.Value{}}}
	var bad []wrong
	var key api.Value
	for _, v := range append(ofEachKind(), api.Value{}) {
		m := sample.Pairs(v, api.Value{})
		if keyMay(v) {
			key = v
			good = append(good, m)
		} else {
			bad = append(bad, wrong{m, api.ErrProps})
		}
	}
	for _, v := range ofEachKind() {
		m := sample.Pairs(key, v)
		if valueMay(v) {
			good = append(good, m)
		} else {
			bad = append(bad, wrong{m, api.ErrProps})
		}
		if v.Kind != api.Map {
			bad = append(bad, wrong{v, api.ErrProps})
		}
	}
	good = append(good, keyed(key.Kind, 1024))
	bad = append(bad, wrong{keyed(key.Kind, 1025), api.ErrMap}, wrong{sample.Pairs(key), api.ErrMap}, wrong{sample.Pairs(key, key, key, key), api.ErrMap}, wrong{sample.Pairs(sample.List(), key, sample.List(), key), api.ErrMap},
		wrong{sample.Pairs(key, text("\xff")), api.ErrText}, wrong{sample.Pairs(key, sample.Num(-1, 0)), api.ErrKind}, wrong{sample.Pairs(key, sample.Num(25, 0)), api.ErrKind}, wrong{sample.Pairs(symbol("\xff"), key), api.ErrText}, wrong{sample.Pairs(key, sample.Num(api.Bool, 2)), api.ErrNum}, wrong{sample.Pairs(sample.List(), sample.Num(api.Bool, 2)), api.ErrNum},
		wrong{sample.Num(-1, 0), api.ErrProps}, wrong{sample.Num(25, 0), api.ErrProps}, wrong{sample.Num(api.Bool, 2), api.ErrProps}, wrong{sample.Num(api.Null, 1), api.ErrExtra}, wrong{sample.Text(api.Null, "a"), api.ErrExtra}, wrong{api.Value{Elem: 1}, api.ErrExtra}, wrong{api.Value{List: []api.Value{{}}}, api.ErrExtra}, wrong{sample.Num(api.Map, 1), api.ErrExtra}, wrong{sample.Pairs(key, nested(32)), api.ErrDeep}, wrong{sample.Pairs(sample.List(), nested(32)), api.ErrDeep},
		wrong{sample.Pairs(key, api.Value{}, sample.Num(api.Uint, 1), api.Value{}), api.ErrProps}, wrong{sample.Pairs(sample.Num(api.Uint, 1), api.Value{}, key, api.Value{}), api.ErrProps})
	return good, bad
}

func isAnnotation(key api.Value) bool { return key.Kind == api.Symbol || key.Kind == api.Ulong }

func isString(key api.Value) bool { return key.Kind == api.String }

func isSimple(v api.Value) bool { return v.Kind < api.List }

func isAny(api.Value) bool { return true }

var (
	goodNotes, badNotes = mapsOf(isAnnotation, isAny)
	goodApps, badApps   = mapsOf(isString, isSimple)
)

// parts are the names of a message's parts that are maps.
var parts = []string{"DelAnn", "MsgAnn", "App", "Footer"}

func goodMaps(part string) []api.Value {
	if part == "App" {
		return goodApps
	}
	return append([]api.Value{sample.Pairs(symbol("a"), api.Value{}, sample.Num(api.Ulong, 0), nested(29)), nested(31)}, goodNotes...)
}

func badMaps(part string) []wrong {
	if part == "App" {
		return badApps
	}
	return append([]wrong{{nested(32), api.ErrDeep}, {sample.Pairs(symbol("a"), nested(31)), api.ErrDeep}}, badNotes...)
}

// parse is the value of a text.
func parse(s string) api.Value {
	v, at, e := note.Parse(s)
	if e != api.OK {
		panic(s + ": a fault at " + strconv.Itoa(at))
	}
	return v
}

// encoded are the bytes of values that may be, one behind the other.
func encoded(l ...api.Value) []byte {
	var all []byte
	for _, v := range l {
		b, e := codec.Encode(v)
		if e != api.OK {
			panic("a value without bytes: " + strconv.Itoa(int(e)))
		}
		all = append(all, b...)
	}
	return all
}

// hex are the bytes that digits say, two by two, with blanks between.
func hex(s string) []byte {
	var b []byte
	for _, word := range strings.Fields(s) {
		n, e := strconv.ParseUint(word, 16, 8)
		if e != nil {
			panic(e)
		}
		b = append(b, byte(n))
	}
	return b
}

// told is anything of api as text, in which two are alike just where they are the same.
func told(x any) string { return written(x, false) }

// withRoom is the same with what stands in the room behind all lists.
func withRoom(x any) string { return written(x, true) }

func written(x any, room bool) string {
	var b strings.Builder
	tell(&b, reflect.ValueOf(x), room)
	return b.String()
}

func tell(b *strings.Builder, v reflect.Value, room bool) {
	switch v.Kind() {
	case reflect.Struct:
		b.WriteString("{")
		for i := range v.NumField() {
			b.WriteString(" " + v.Type().Field(i).Name + ":")
			tell(b, v.Field(i), room)
		}
		b.WriteString("}")
	case reflect.Slice:
		n := v.Len()
		b.WriteString("[")
		if room {
			b.WriteString(strconv.Itoa(n))
			n = v.Cap()
		}
		if l, is := v.Interface().([]byte); is {
			fmt.Fprintf(b, "%x]", l[:n])
			return
		}
		for i := range n {
			b.WriteString(" ")
			tell(b, v.Slice(0, n).Index(i), room)
		}
		b.WriteString("]")
	case reflect.String:
		b.WriteString(strconv.Quote(v.String()))
	default:
		fmt.Fprint(b, v.Interface())
	}
}

// brief is a text that is not too long to be told.
func brief(s string) string {
	if len(s) > 600 {
		return s[:600] + ".. (" + strconv.Itoa(len(s)) + " bytes)"
	}
	return s
}

func briefBytes(b []byte) string { return brief(fmt.Sprintf("%x", b[:min(len(b), 301)])) }

// alike tells whether two are the same, no list and an empty one too; it doesn't ask the program.
func alike(a, b any) bool { return sameIn(reflect.ValueOf(a), reflect.ValueOf(b)) }

func sameIn(a, b reflect.Value) bool {
	switch a.Kind() {
	case reflect.Struct:
		for i := range a.NumField() {
			if !sameIn(a.Field(i), b.Field(i)) {
				return false
			}
		}
		return true
	case reflect.Slice:
		if a.Len() != b.Len() {
			return false
		}
		for i := range a.Len() {
			if !sameIn(a.Index(i), b.Index(i)) {
				return false
			}
		}
		return true
	}
	return a.Equal(b)
}

// wantError wants an error of Check, and the same with no bytes of Encode.
func wantError(t *testing.T, m api.Message, want api.Errno) {
	t.Helper()
	if e := message.Check(m); e != want {
		t.Errorf("Check(%s): %d, want %d", brief(told(m)), e, want)
	}
	if b, e := message.Encode(m); e != want || len(b) != 0 {
		t.Errorf("Encode(%s): %d bytes, %d, want %d", brief(told(m)), len(b), e, want)
	}
}

// wantBytes wants that Check takes it, that Encode writes these bytes, and that Decode reads them as it was.
func wantBytes(t *testing.T, m api.Message, want []byte) {
	t.Helper()
	if e := message.Check(m); e != api.OK {
		t.Errorf("Check(%s): %d", brief(told(m)), e)
	}
	if b, e := message.Encode(m); e != api.OK || !bytes.Equal(b, want) {
		t.Errorf("Encode(%s): %s, %d, want %s", brief(told(m)), briefBytes(b), e, briefBytes(want))
	}
	wantMessage(t, want, m)
}

// wantMessage wants that a message is read.
func wantMessage(t *testing.T, b []byte, want api.Message) {
	t.Helper()
	if m, at, e := message.Decode(b); e != api.OK || at != 0 || !alike(m, want) {
		t.Errorf("Decode(%s): %s, %d, %d, want %s", briefBytes(b), brief(told(m)), at, e, brief(told(want)))
	}
}

// wantFault wants that nothing is read but an error and its place, by none of the calls that read.
func wantFault(t *testing.T, b []byte, wantAt int, want api.Errno) {
	t.Helper()
	if m, at, e := message.Decode(b); e != want || at != wantAt || !alike(m, api.Message{}) {
		t.Errorf("Decode(%s): %s, %d, %d, want %d, %d", briefBytes(b), brief(told(m)), at, e, wantAt, want)
	}
	if from, to, e := message.Bare(b); e != want || from != 0 || to != 0 {
		t.Errorf("Bare(%s): %d, %d, %d, want %d", briefBytes(b), from, to, e, want)
	}
	for _, count := range []int{0, 1, api.MaxWord} {
		if again, e := message.Again(b, count); e != want || len(again) != 0 {
			t.Errorf("Again(%s, %d): %d bytes, %d, want %d", briefBytes(b), count, len(again), e, want)
		}
	}
}
