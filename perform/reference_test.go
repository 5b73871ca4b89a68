package perform_test

import (
	"bytes"
	"fmt"
	"reflect"
	"slices"
	"strconv"
	"strings"
	"testing"
	"unicode/utf8"

	"longshore/api"
	"longshore/codec"
	"longshore/note"
	"longshore/perform"
	"longshore/sample"
	"longshore/shape"
	"longshore/terms"
	"longshore/value"
)

// A second program that goes by the table of values_test.go and by the names of api.Perform's fields, and lays the composites itself; of those below it asks codec, value.Check, shape.Unpack and what terms packs and reads.

func modelBlank(kind int) api.Perform {
	specs, is := table[kind]
	if !is {
		return api.Perform{}
	}
	p := api.Perform{Kind: kind}
	for _, s := range specs {
		if s.most > 0 {
			p = with(p, s.name, s.blank)
		}
	}
	return p
}

// modelValue is what a performative is on the wire, or why it may not be.
func modelValue(p api.Perform) (api.Value, api.Errno) {
	specs, is := table[p.Kind]
	if !is || !hasOnly(p, names(p.Kind)) {
		return api.Value{}, api.ErrPerform
	}
	if p.Kind == api.KTransfer && (p.Tag != "" && !p.HasTag || p.Settled && !p.HasSettled) {
		return api.Value{}, api.ErrPerform
	}
	var l []api.Value
	for _, s := range specs {
		v, e := modelField(p, s)
		if e != api.OK {
			return api.Value{}, e
		}
		l = append(l, v)
	}
	for len(l) > 0 && l[len(l)-1].Kind == api.Null {
		l = l[:len(l)-1]
	}
	v := composite(p.Kind, l...)
	if depth(v) > 32 {
		return api.Value{}, api.ErrDeep
	}
	return v, api.OK
}

// modelField is a field on the wire.
func modelField(p api.Perform, s spec) (api.Value, api.Errno) {
	x := reflect.ValueOf(p).FieldByName(s.name)
	if s.has != "" && !reflect.ValueOf(p).FieldByName(s.has).Bool() {
		return api.Value{}, api.OK
	}
	v, e := modelOf(s, x.Interface())
	if !s.must && e == api.OK && (s.most == 0 && zero(x) || s.most > 0 && int(x.Int()) == s.blank) {
		return api.Value{}, api.OK
	}
	return v, e
}

// modelOf is what a field says as a value.
func modelOf(s spec, x any) (api.Value, api.Errno) {
	switch x := x.(type) {
	case int:
		if x < s.least || x > s.most {
			return api.Value{}, api.ErrRange
		}
		return sample.Num(s.kind, uint64(x)), api.OK
	case string:
		return modelText(s, x)
	case bool:
		if x {
			return sample.Num(s.kind, 1), api.OK
		}
		return sample.Num(s.kind, 0), api.OK
	case api.Value:
		if e := value.Check(x); e != api.OK {
			return api.Value{}, e
		}
		if x.Kind != api.Null && x.Kind != api.Map {
			return api.Value{}, api.ErrField
		}
		return x, api.OK
	case api.Terminus:
		return modelTerminus(s, x)
	case api.State:
		if isZero(x) {
			return api.Value{}, api.OK
		}
		return terms.PackState(x)
	case api.Fault:
		if isZero(x) {
			return api.Value{}, api.OK
		}
		return terms.PackFault(x)
	}
	return modelUnsettled(x.([]api.Unsettled))
}

func modelText(s spec, text string) (api.Value, api.Errno) {
	switch {
	case s.kind == api.Binary && len(text) > 32, s.kind == api.String && len(text) > 64:
		return api.Value{}, api.ErrLong
	case s.kind == api.String && !utf8.ValidString(text):
		return api.Value{}, api.ErrText
	}
	return sample.Text(s.kind, text), api.OK
}

func modelTerminus(s spec, x api.Terminus) (api.Value, api.Errno) {
	v, e := terms.PackTerminus(x)
	may := map[string][]int{"Source": {0, api.KSource}, "Target": {0, api.KTarget, api.KCoordinator}}
	if e == api.OK && !slices.Contains(may[s.name], x.Kind) {
		e = api.ErrField
	}
	return v, e
}

func modelUnsettled(l []api.Unsettled) (api.Value, api.Errno) {
	if len(l) > 1024 {
		return api.Value{}, api.ErrMap
	}
	v := sample.Pairs()
	earlier := map[string]bool{}
	for _, u := range l {
		if len(u.Tag) > 32 {
			return api.Value{}, api.ErrLong
		}
		if earlier[u.Tag] {
			return api.Value{}, api.ErrMap
		}
		earlier[u.Tag] = true
		state, e := modelOf(spec{}, u.State)
		if e != api.OK {
			return api.Value{}, e
		}
		v.List = append(v.List, sample.Text(api.Binary, u.Tag), state)
	}
	return v, api.OK
}

func modelWrite(p api.Perform) ([]byte, api.Errno) {
	v, e := modelValue(p)
	if e != api.OK {
		return nil, e
	}
	return codec.Encode(v)
}

func modelRead(body []byte) (api.Perform, int, api.Errno) {
	v, at, e := codec.Decode(body, 0)
	if e != api.OK {
		return api.Perform{}, 0, e
	}
	p, e := modelReadValue(v)
	if e == api.OK && at < len(body) && p.Kind != api.KTransfer {
		e = api.ErrPlain
	}
	if e != api.OK {
		return api.Perform{}, 0, e
	}
	return p, at, api.OK
}

func modelReadValue(v api.Value) (api.Perform, api.Errno) {
	at := slices.IndexFunc(kinds, func(kind int) bool {
		return v.Kind == api.Described && (sample.Same(v.List[0], composite(kind).List[0]) || sample.Same(v.List[0], byName(kind).List[0]))
	})
	if at < 0 {
		return api.Perform{}, api.ErrPerform
	}
	r, _, e := shape.Unpack(v)
	if e != api.OK {
		return api.Perform{}, e
	}
	p := modelBlank(kinds[at])
	for i, s := range table[kinds[at]] {
		if r.Fields[i].Kind == api.Null {
			continue
		}
		x, e := modelReadField(s, r.Fields[i])
		if e != api.OK {
			return api.Perform{}, e
		}
		p = having(p, s, x)
	}
	return p, api.OK
}

// modelReadField is what a value that is there says in a field.
func modelReadField(s spec, v api.Value) (any, api.Errno) {
	switch {
	case s.most > 0:
		if v.Num > uint64(s.most) || s.least > 0 && v.Num < uint64(s.least) {
			return nil, api.ErrRange
		}
		return int(v.Num), api.OK
	case s.kind == api.Bool:
		return v.Num == 1, api.OK
	case s.kind == api.String, s.kind == api.Binary:
		_, e := modelText(s, v.Text)
		return v.Text, e
	case s.name == "Props":
		return v, api.OK
	case s.name == "State":
		return both(terms.ReadState(v))
	case s.name == "Fault":
		return both(terms.ReadFault(v))
	case s.name != "Unsettled":
		return both(terms.ReadTerminus(v))
	}
	l := make([]api.Unsettled, len(v.List)/2)
	for i := range l {
		key, state := v.List[2*i], v.List[2*i+1]
		if key.Kind != api.Binary {
			return nil, api.ErrField
		}
		if len(key.Text) > 32 {
			return nil, api.ErrLong
		}
		l[i].Tag = key.Text
		if state.Kind == api.Null {
			continue
		}
		var e api.Errno
		if l[i].State, e = terms.ReadState(state); e != api.OK {
			return nil, e
		}
	}
	return l, api.OK
}

func both[T any](x T, e api.Errno) (any, api.Errno) { return x, e }

// zero tells whether all of something is zero, an empty list too.
func zero(v reflect.Value) bool {
	switch v.Kind() {
	case reflect.Slice:
		return v.Len() == 0
	case reflect.Struct:
		for i := range v.NumField() {
			if !zero(v.Field(i)) {
				return false
			}
		}
		return true
	}
	return v.IsZero()
}

func isZero(x any) bool { return zero(reflect.ValueOf(x)) }

// hasOnly tells whether a struct has nothing but its Kind and these fields.
func hasOnly(x any, names []string) bool {
	v := reflect.ValueOf(x)
	for i := range v.NumField() {
		if name := v.Type().Field(i).Name; name != "Kind" && !slices.Contains(names, name) && !zero(v.Field(i)) {
			return false
		}
	}
	return true
}

func depth(v api.Value) int {
	most := 0
	for _, part := range v.List {
		most = max(most, depth(part))
	}
	return most + 1
}

// composite is a described list, by its kind's number.
func composite(kind int, l ...api.Value) api.Value {
	return sample.Described(sample.Num(api.Ulong, uint64(kind)), sample.List(l...))
}

// words are the names of the kinds that stand in performatives.
var words = map[int]string{
	api.KOpen: "open", api.KBegin: "begin", api.KAttach: "attach", api.KFlow: "flow", api.KTransfer: "transfer", api.KDisposition: "disposition", api.KDetach: "detach", api.KEnd: "end", api.KClose: "close",
	api.KFault: "fault", api.KReceived: "received", api.KAccepted: "accepted", api.KRejected: "rejected", api.KReleased: "released", api.KModified: "modified",
	api.KSource: "source", api.KTarget: "target", api.KCoordinator: "coordinator", api.KDeclared: "declared", api.KTransactional: "transactional",
}

// byName is a described list, by its kind's name.
func byName(kind int, l ...api.Value) api.Value {
	return sample.Described(sample.Text(api.Symbol, "longshore:"+words[kind]+":list"), sample.List(l...))
}

// parse is the value of a text.
func parse(s string) api.Value {
	v, at, e := note.Parse(s)
	if e != api.OK {
		panic(s + ": a fault at " + strconv.Itoa(at))
	}
	return v
}

// encoded are the bytes of a value that may be.
func encoded(v api.Value) []byte {
	b, e := codec.Encode(v)
	if e != api.OK {
		panic("a value without bytes: " + strconv.Itoa(int(e)))
	}
	return b
}

// hex are the bytes that digits say, two by two, with blanks between.
func hex(s string) []byte {
	var b []byte
	for _, word := range strings.Fields(s) {
		n, e := strconv.ParseUint(word, 16, 8)
		if e != nil {
			panic(e)
		}
		b = append(b, byte(n))
	}
	return b
}

// told is anything of api as text, in which two are alike just where they are the same.
func told(x any) string { return written(x, false) }

// withRoom is the same with what stands in the room behind all lists.
func withRoom(x any) string { return written(x, true) }

func written(x any, room bool) string {
	var b strings.Builder
	tell(&b, reflect.ValueOf(x), room)
	return b.String()
}

func tell(b *strings.Builder, v reflect.Value, room bool) {
	switch v.Kind() {
	case reflect.Struct:
		b.WriteString("{")
		for i := range v.NumField() {
			if !zero(v.Field(i)) || room {
				b.WriteString(" " + v.Type().Field(i).Name + ":")
				tell(b, v.Field(i), room)
			}
		}
		b.WriteString("}")
	case reflect.Slice:
		n := v.Len()
		b.WriteString("[")
		if room {
			b.WriteString(strconv.Itoa(n))
			n = v.Cap()
		}
		if l, is := v.Interface().([]byte); is {
			fmt.Fprintf(b, "%x]", l[:n])
			return
		}
		for i := range n {
			b.WriteString(" ")
			tell(b, v.Slice(0, n).Index(i), room)
		}
		b.WriteString("]")
	case reflect.String:
		b.WriteString(strconv.Quote(v.String()))
	default:
		fmt.Fprint(b, v.Interface())
	}
}

// brief is a text that is not too long to be told.
func brief(s string) string {
	if len(s) > 2000 {
		return s[:2000] + ".. (" + strconv.Itoa(len(s)) + " bytes)"
	}
	return s
}

// alike tells whether two are the same, no list and an empty one too; it doesn't ask the program.
func alike(a, b any) bool { return sameIn(reflect.ValueOf(a), reflect.ValueOf(b)) }

func sameIn(a, b reflect.Value) bool {
	switch a.Kind() {
	case reflect.Struct:
		for i := range a.NumField() {
			if !sameIn(a.Field(i), b.Field(i)) {
				return false
			}
		}
		return true
	case reflect.Slice:
		if a.Len() != b.Len() {
			return false
		}
		for i := range a.Len() {
			if !sameIn(a.Index(i), b.Index(i)) {
				return false
			}
		}
		return true
	}
	return a.Equal(b)
}

// wantError wants an error of Check, and the same with no bytes of Write.
func wantError(t *testing.T, p api.Perform, want api.Errno) {
	t.Helper()
	if e := perform.Check(p); e != want {
		t.Errorf("Check(%s): %d, want %d", brief(told(p)), e, want)
	}
	if b, e := perform.Write(p); e != want || len(b) != 0 {
		t.Errorf("Write(%s): %d bytes, %d, want %d", brief(told(p)), len(b), e, want)
	}
}

// wantBytes wants that Check takes it, and that Write writes these bytes.
func wantBytes(t *testing.T, p api.Perform, want []byte) {
	t.Helper()
	if e := perform.Check(p); e != api.OK {
		t.Errorf("Check(%s): %d", brief(told(p)), e)
	}
	if b, e := perform.Write(p); e != api.OK || !bytes.Equal(b, want) {
		t.Errorf("Write(%s): %s, %d, want %s", brief(told(p)), brief(fmt.Sprintf("%x", b)), e, brief(fmt.Sprintf("%x", want)))
	}
}

// wantRead wants that a performative is read, and where its payload begins.
func wantRead(t *testing.T, body []byte, want api.Perform, wantAt int) {
	t.Helper()
	if p, at, e := perform.Read(body); e != api.OK || at != wantAt || !alike(p, want) {
		t.Errorf("Read(%s): %s, %d, %d, want %s, %d", brief(fmt.Sprintf("%x", body)), brief(told(p)), at, e, brief(told(want)), wantAt)
	}
}

// wantFault wants that nothing is read but an error.
func wantFault(t *testing.T, body []byte, want api.Errno) {
	t.Helper()
	if p, at, e := perform.Read(body); e != want || at != 0 || !isZero(p) {
		t.Errorf("Read(%s): %s, %d, %d, want %d", brief(fmt.Sprintf("%x", body)), brief(told(p)), at, e, want)
	}
}

// wantAsModel holds Check and Write against the second program.
func wantAsModel(t *testing.T, p api.Perform) api.Errno {
	t.Helper()
	_, checked := modelValue(p)
	if e := perform.Check(p); e != checked {
		t.Errorf("Check(%s): %d, want %d", brief(told(p)), e, checked)
	}
	want, wantE := modelWrite(p)
	if b, e := perform.Write(p); e != wantE || !bytes.Equal(b, want) {
		t.Errorf("Write(%s): %s, %d, want %s, %d", brief(told(p)), brief(fmt.Sprintf("%x", b)), e, brief(fmt.Sprintf("%x", want)), wantE)
	}
	return checked
}

// wantReadAsModel holds Read against the second program.
func wantReadAsModel(t *testing.T, body []byte) api.Errno {
	t.Helper()
	p, at, e := modelRead(body)
	if e != api.OK {
		wantFault(t, body, e)
	} else {
		wantRead(t, body, p, at)
	}
	return e
}
