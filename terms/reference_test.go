package terms_test

import (
	"fmt"
	"reflect"
	"regexp"
	"slices"
	"strconv"
	"strings"
	"testing"
	"unicode/utf8"

	"longshore/api"
	"longshore/note"
	"longshore/sample"
	"longshore/shape"
	"longshore/terms"
	"longshore/value"
)

// A second program that does what the chapter's words say one by one: which fields a kind has stands in tables, and values are written out whole; of those below it asks value.Check and shape.Unpack alone.

var (
	condition = regexp.MustCompile(`\A[a-z0-9:-]{1,64}\z`)
	ability   = regexp.MustCompile(`\A[\x00-\x7f]{1,64}\z`)
	final     = regexp.MustCompile(`\Alongshore:(accepted|rejected|released|modified):list\z`)
)

// stateHas are the fields that states have beside their Kind.
var stateHas = map[int][]string{
	api.KReceived:      {"Section", "Offset"},
	api.KAccepted:      {},
	api.KRejected:      {"Fault"},
	api.KReleased:      {},
	api.KModified:      {"Failed", "Elsewhere", "Ann"},
	api.KDeclared:      {"Txn"},
	api.KTransactional: {"Txn", "Inner"},
}

// terminusHas are the fields that termini have beside their Kind.
var terminusHas = map[int][]string{
	0:                {},
	api.KSource:      {"Address", "Durable", "Expiry", "Timeout", "Dynamic", "Mode", "Filter", "Default", "Outcomes", "Caps"},
	api.KTarget:      {"Address", "Durable", "Expiry", "Timeout", "Dynamic", "Caps"},
	api.KCoordinator: {"Caps"},
}

// zero tells whether all of something is zero, an empty list too.
func zero(v reflect.Value) bool {
	switch v.Kind() {
	case reflect.Slice:
		return v.Len() == 0
	case reflect.Struct:
		for i := range v.NumField() {
			if !zero(v.Field(i)) {
				return false
			}
		}
		return true
	}
	return v.IsZero()
}

func isZero(x any) bool { return zero(reflect.ValueOf(x)) }

// hasOnly tells whether a struct has nothing but its Kind and these fields.
func hasOnly(x any, names []string) bool {
	v := reflect.ValueOf(x)
	for i := range v.NumField() {
		if name := v.Type().Field(i).Name; name != "Kind" && !slices.Contains(names, name) && !zero(v.Field(i)) {
			return false
		}
	}
	return true
}

func modelText(s string) bool { return utf8.ValidString(s) && len(s) <= 4096 }

func modelMap(v api.Value) api.Errno {
	if v.Kind != api.Null && v.Kind != api.Map {
		return api.ErrTerm
	}
	return value.Check(v)
}

func isOutcome(kind int) bool { return api.KAccepted <= kind && kind <= api.KModified }

func modelPackFault(f api.Fault) (api.Value, api.Errno) {
	if !condition.MatchString(f.Cond) || !modelText(f.Text) {
		return api.Value{}, api.ErrTerm
	}
	if e := modelMap(f.Info); e != api.OK {
		return api.Value{}, e
	}
	return made(api.KFault, sample.Text(api.Symbol, f.Cond), stringOf(f.Text), f.Info)
}

func modelPackState(s api.State) (api.Value, api.Errno) {
	names, is := stateHas[s.Kind]
	if !is || !hasOnly(s, names) {
		return api.Value{}, api.ErrTerm
	}
	var l []api.Value
	for _, name := range names {
		v, e := modelOfState(name, s)
		if e != api.OK {
			return api.Value{}, e
		}
		l = append(l, v)
	}
	return made(s.Kind, l...)
}

// modelOfState is one field of a state as a value.
func modelOfState(name string, s api.State) (api.Value, api.Errno) {
	switch {
	case name == "Section" && (s.Section < 0 || s.Section > 4294967295), name == "Offset" && s.Offset < 0, name == "Txn" && (len(s.Txn) == 0 || len(s.Txn) > 32):
		return api.Value{}, api.ErrTerm
	case name == "Section":
		return sample.Num(api.Uint, uint64(s.Section)), api.OK
	case name == "Offset":
		return sample.Num(api.Ulong, uint64(s.Offset)), api.OK
	case name == "Fault" && !isZero(s.Fault):
		return modelPackFault(s.Fault)
	case name == "Failed" && s.Failed, name == "Elsewhere" && s.Elsewhere:
		return sample.Num(api.Bool, 1), api.OK
	case name == "Ann":
		return s.Ann, modelMap(s.Ann)
	case name == "Txn":
		return sample.Text(api.Binary, s.Txn), api.OK
	case name == "Inner" && (len(s.Inner) > 1 || len(s.Inner) == 1 && !isOutcome(s.Inner[0].Kind)):
		return api.Value{}, api.ErrNested
	case name == "Inner" && len(s.Inner) == 1:
		return modelPackState(s.Inner[0])
	}
	return api.Value{}, api.OK
}

// lives are the words of how long a terminus lives; the second one is the Default of its field.
var lives = []string{"link-detach", "session-end", "connection-close", "never"}

func modelPackTerminus(t api.Terminus) (api.Value, api.Errno) {
	names, is := terminusHas[t.Kind]
	if !is || !hasOnly(t, names) {
		return api.Value{}, api.ErrTerm
	}
	if t.Kind == 0 {
		return api.Value{}, api.OK
	}
	if !modelText(t.Address) {
		return api.Value{}, api.ErrAddress
	}
	if t.Durable < 0 || t.Durable > 2 || t.Expiry < 0 || t.Expiry > 3 || t.Timeout < 0 || t.Timeout > 4294967295 || t.Mode < 0 || t.Mode > 1 || !modelText(t.Filter) {
		return api.Value{}, api.ErrTerm
	}
	unsettled := api.Value{}
	switch {
	case t.Default.Kind != 0 && !isOutcome(t.Default.Kind):
		return api.Value{}, api.ErrNested
	case t.Default.Kind != 0:
		var e api.Errno
		if unsettled, e = modelPackState(t.Default); e != api.OK {
			return api.Value{}, e
		}
	case !isZero(t.Default):
		return api.Value{}, api.ErrTerm
	}
	for i, name := range t.Outcomes {
		if !final.MatchString(name) || slices.Index(t.Outcomes, name) < i {
			return api.Value{}, api.ErrTerm
		}
	}
	for _, name := range t.Caps {
		if !ability.MatchString(name) {
			return api.Value{}, api.ErrTerm
		}
	}
	switch t.Kind {
	case api.KCoordinator:
		return made(t.Kind, symbolsOf(t.Caps))
	case api.KTarget:
		return made(t.Kind, append(modelNode(t), symbolsOf(t.Caps))...)
	}
	mode := api.Value{}
	if t.Mode == 1 {
		mode = sample.Text(api.Symbol, "copy")
	}
	return made(t.Kind, append(modelNode(t), mode, stringOf(t.Filter), unsettled, symbolsOf(t.Outcomes), symbolsOf(t.Caps))...)
}

// modelNode are the first five fields of a source or a target, Null where they are their Defaults.
func modelNode(t api.Terminus) []api.Value {
	l := []api.Value{stringOf(t.Address), {}, {}, {}, {}}
	if t.Durable > 0 {
		l[1] = sample.Num(api.Uint, uint64(t.Durable))
	}
	if t.Expiry != 1 {
		l[2] = sample.Text(api.Symbol, lives[t.Expiry])
	}
	if t.Timeout > 0 {
		l[3] = sample.Num(api.Uint, uint64(t.Timeout))
	}
	if t.Dynamic {
		l[4] = sample.Num(api.Bool, 1)
	}
	return l
}

func stringOf(s string) api.Value {
	if s == "" {
		return api.Value{}
	}
	return sample.Text(api.String, s)
}

func symbolsOf(names []string) api.Value {
	if len(names) == 0 {
		return api.Value{}
	}
	v := sample.Array(api.Symbol)
	for _, name := range names {
		v.List = append(v.List, sample.Text(api.Symbol, name))
	}
	return v
}

// made is a composite without Nulls at its end, if it is not too deep.
func made(kind int, l ...api.Value) (api.Value, api.Errno) {
	for len(l) > 0 && l[len(l)-1].Kind == api.Null {
		l = l[:len(l)-1]
	}
	v := composite(kind, l...)
	if depth(v) > 32 {
		return api.Value{}, api.ErrDeep
	}
	return v, api.OK
}

func depth(v api.Value) int {
	most := 0
	for _, part := range v.List {
		most = max(most, depth(part))
	}
	return most + 1
}

func modelReadFault(v api.Value) (api.Fault, api.Errno) {
	r, _, e := shape.Unpack(v)
	if e != api.OK {
		return api.Fault{}, e
	}
	if r.Kind != api.KFault || !condition.MatchString(r.Fields[0].Text) || !modelText(r.Fields[1].Text) {
		return api.Fault{}, api.ErrTerm
	}
	return api.Fault{Cond: r.Fields[0].Text, Text: r.Fields[1].Text, Info: r.Fields[2]}, api.OK
}

func modelReadState(v api.Value) (api.State, api.Errno) {
	r, _, e := shape.Unpack(v)
	if e != api.OK {
		return api.State{}, e
	}
	f, s := r.Fields, api.State{Kind: r.Kind}
	switch r.Kind {
	case api.KReceived:
		s.Section, s.Offset = int(f[0].Num), int(f[1].Num)
		if f[1].Num >= 1<<63 {
			e = api.ErrTerm
		}
	case api.KAccepted, api.KReleased:
	case api.KRejected:
		if f[0].Kind != api.Null {
			s.Fault, e = modelReadFault(f[0])
		}
	case api.KModified:
		s.Failed, s.Elsewhere, s.Ann = f[0].Num == 1, f[1].Num == 1, f[2]
	case api.KDeclared, api.KTransactional:
		s.Txn = f[0].Text
		if len(s.Txn) == 0 || len(s.Txn) > 32 {
			e = api.ErrTerm
		} else if len(f) > 1 && f[1].Kind != api.Null {
			s.Inner = make([]api.State, 1)
			s.Inner[0], e = modelReadState(f[1])
		}
	default:
		e = api.ErrTerm
	}
	if e != api.OK {
		return api.State{}, e
	}
	return s, api.OK
}

func modelReadTerminus(v api.Value) (api.Terminus, api.Errno) {
	if isZero(v) {
		return api.Terminus{}, api.OK
	}
	r, _, e := shape.Unpack(v)
	if e != api.OK {
		return api.Terminus{}, e
	}
	f, t := r.Fields, api.Terminus{Kind: r.Kind}
	switch r.Kind {
	case api.KCoordinator:
		t.Caps = textsOf(f[0])
	case api.KTarget, api.KSource:
		t.Address, t.Durable, t.Expiry, t.Timeout, t.Dynamic = f[0].Text, int(f[1].Num), slices.Index(lives, f[2].Text), int(f[3].Num), f[4].Num == 1
		t.Caps = textsOf(f[len(f)-1])
	default:
		return api.Terminus{}, api.ErrTerm
	}
	if r.Kind == api.KSource {
		modes := map[string]int{"move": 0, "copy": 1}
		mode, is := modes[f[5].Text]
		if f[5].Kind != api.Null && !is {
			mode = -1
		}
		t.Mode, t.Filter, t.Outcomes = mode, f[6].Text, textsOf(f[8])
		if f[7].Kind != api.Null {
			t.Default, e = modelReadState(f[7])
		}
	}
	if !modelText(t.Address) {
		return api.Terminus{}, api.ErrAddress // the one thing in a record whose error is another one, and it comes first
	}
	if _, wrong := modelPackTerminus(t); e != api.OK || wrong != api.OK {
		return api.Terminus{}, api.ErrTerm
	}
	return t, api.OK
}

func textsOf(v api.Value) []string {
	var l []string
	for _, part := range v.List {
		l = append(l, part.Text)
	}
	return l
}

// composite is a described list, by its kind's number.
func composite(kind int, l ...api.Value) api.Value {
	return sample.Described(sample.Num(api.Ulong, uint64(kind)), sample.List(l...))
}

// words are the names of the kinds that this layer reads.
var words = map[int]string{
	api.KFault: "fault", api.KReceived: "received", api.KAccepted: "accepted", api.KRejected: "rejected", api.KReleased: "released", api.KModified: "modified",
	api.KSource: "source", api.KTarget: "target", api.KCoordinator: "coordinator", api.KDeclared: "declared", api.KTransactional: "transactional",
}

// byName is a described list, by its kind's name.
func byName(kind int, l ...api.Value) api.Value {
	return sample.Described(sample.Text(api.Symbol, "longshore:"+words[kind]+":list"), sample.List(l...))
}

// parse is the value of a text.
func parse(s string) api.Value {
	v, at, e := note.Parse(s)
	if e != api.OK {
		panic(s + ": a fault at " + strconv.Itoa(at))
	}
	return v
}

// told is a fault, a state, a terminus or a value as text, in which two are alike just where they are the same.
func told(x any) string { return written(x, false) }

// withRoom is the same with what stands in the room behind all lists.
func withRoom(x any) string { return written(x, true) }

func written(x any, room bool) string {
	var b strings.Builder
	tell(&b, reflect.ValueOf(x), room)
	return b.String()
}

func tell(b *strings.Builder, v reflect.Value, room bool) {
	switch v.Kind() {
	case reflect.Struct:
		b.WriteString("{")
		for i := range v.NumField() {
			if !zero(v.Field(i)) || room {
				b.WriteString(" " + v.Type().Field(i).Name + ":")
				tell(b, v.Field(i), room)
			}
		}
		b.WriteString("}")
	case reflect.Slice:
		n := v.Len()
		b.WriteString("[")
		if room {
			b.WriteString(strconv.Itoa(n))
			n = v.Cap()
		}
		for i := range n {
			b.WriteString(" ")
			tell(b, v.Slice(0, n).Index(i), room)
		}
		b.WriteString("]")
	case reflect.String:
		if s := v.String(); len(s) > 300 {
			fmt.Fprintf(b, "%q.. (%d bytes, %x)", s[:20], len(s), sum(s))
		} else {
			b.WriteString(strconv.Quote(s))
		}
	default:
		fmt.Fprint(b, v.Interface())
	}
}

// sum keeps long texts that differ apart.
func sum(s string) uint64 {
	n := uint64(14695981039346656037)
	for i := range len(s) {
		n = (n ^ uint64(s[i])) * 1099511628211
	}
	return n
}

// alike tells whether two are the same, no list and an empty one too; it doesn't ask the program.
func alike(a, b any) bool { return sameIn(reflect.ValueOf(a), reflect.ValueOf(b)) }

func sameIn(a, b reflect.Value) bool {
	switch a.Kind() {
	case reflect.Struct:
		for i := range a.NumField() {
			if !sameIn(a.Field(i), b.Field(i)) {
				return false
			}
		}
		return true
	case reflect.Slice:
		if a.Len() != b.Len() {
			return false
		}
		for i := range a.Len() {
			if !sameIn(a.Index(i), b.Index(i)) {
				return false
			}
		}
		return true
	}
	return a.Equal(b)
}

// wantPacked holds what a call packs against a value, or against an error and no value.
func wantPacked(t *testing.T, what any, v api.Value, e api.Errno, want api.Value, wantE api.Errno) {
	t.Helper()
	if e != wantE || !sample.Same(v, want) {
		t.Errorf("%T %s packed: %s, %d, want %s, %d", what, told(what), told(v), e, told(want), wantE)
	}
}

// wantRead holds what a call reads against a fault, a state or a terminus, or against an error and none.
func wantRead(t *testing.T, v api.Value, x any, e api.Errno, want any, wantE api.Errno) {
	t.Helper()
	if e != wantE || !alike(x, want) {
		t.Errorf("%s read: %T %s, %d, want %s, %d", told(v), x, told(x), e, told(want), wantE)
	}
}

func wantPackFault(t *testing.T, f api.Fault, want api.Value, wantE api.Errno) {
	t.Helper()
	v, e := terms.PackFault(f)
	wantPacked(t, f, v, e, want, wantE)
}

func wantPackState(t *testing.T, s api.State, want api.Value, wantE api.Errno) {
	t.Helper()
	v, e := terms.PackState(s)
	wantPacked(t, s, v, e, want, wantE)
}

func wantPackTerminus(t *testing.T, x api.Terminus, want api.Value, wantE api.Errno) {
	t.Helper()
	v, e := terms.PackTerminus(x)
	wantPacked(t, x, v, e, want, wantE)
}

func wantReadFault(t *testing.T, v api.Value, want api.Fault, wantE api.Errno) {
	t.Helper()
	f, e := terms.ReadFault(v)
	wantRead(t, v, f, e, want, wantE)
}

func wantReadState(t *testing.T, v api.Value, want api.State, wantE api.Errno) {
	t.Helper()
	s, e := terms.ReadState(v)
	wantRead(t, v, s, e, want, wantE)
}

func wantReadTerminus(t *testing.T, v api.Value, want api.Terminus, wantE api.Errno) {
	t.Helper()
	x, e := terms.ReadTerminus(v)
	wantRead(t, v, x, e, want, wantE)
}

// What is packed or read, held against the second program.

func wantFaultAsModel(t *testing.T, f api.Fault) api.Errno {
	t.Helper()
	v, e := modelPackFault(f)
	wantPackFault(t, f, v, e)
	return e
}

func wantStateAsModel(t *testing.T, s api.State) api.Errno {
	t.Helper()
	v, e := modelPackState(s)
	wantPackState(t, s, v, e)
	return e
}

func wantTerminusAsModel(t *testing.T, x api.Terminus) api.Errno {
	t.Helper()
	v, e := modelPackTerminus(x)
	wantPackTerminus(t, x, v, e)
	return e
}

// wantReadsAsModel reads a value as each of the three.
func wantReadsAsModel(t *testing.T, v api.Value) {
	t.Helper()
	f, e := modelReadFault(v)
	wantReadFault(t, v, f, e)
	s, e := modelReadState(v)
	wantReadState(t, v, s, e)
	x, e := modelReadTerminus(v)
	wantReadTerminus(t, v, x, e)
}
