package perform_test

import (
	"math"
	"reflect"
	"slices"
	"testing"

	"longshore/api"
	"longshore/perform"
	"longshore/sample"
)

// lies is where a list lies, up to the end of its room.
type lies struct{ first, behind uintptr }

// places are where all lists in something lie, those that stand in the room behind others too.
func places(x any) []lies {
	var l []lies
	walk(reflect.ValueOf(x), func(list reflect.Value) {
		first := list.Pointer()
		l = append(l, lies{first, first + uintptr(list.Len())*list.Type().Elem().Size()})
	})
	return l
}

// walk tells of all lists in something, each up to the end of its room, ahead of what stands in it.
func walk(v reflect.Value, tell func(reflect.Value)) {
	switch v.Kind() {
	case reflect.Struct:
		for i := range v.NumField() {
			walk(v.Field(i), tell)
		}
	case reflect.Slice:
		if v.Cap() > 0 {
			list := v.Slice(0, v.Cap())
			tell(list)
			for i := range list.Len() {
				walk(list.Index(i), tell)
			}
		}
	}
}

// apart tells whether no two lists share memory.
func apart(l ...[]lies) bool {
	all := slices.Concat(l...)
	slices.SortFunc(all, func(a, b lies) int { return int(int64(a.first) - int64(b.first)) })
	for i := 1; i < len(all); i++ {
		if all[i].first < all[i-1].behind {
			return false
		}
	}
	return true
}

func TestApart(t *testing.T) {
	l := make([]api.Unsettled, 2, 6)
	one := func(l []api.Unsettled) []lies { return places(api.Perform{Unsettled: l}) }
	if !apart(one(l), one(make([]api.Unsettled, 2)), one(nil), one(nil)) || !apart(one(l[:1:1]), one(l[1:])) {
		t.Error("lists that share nothing are not told apart")
	}
	if apart(one(l), one(l)) || apart(one(l[:0:1]), one(l)) || apart(one(l[:1]), one(l[1:])) || apart(one(l), one(l[4:6])) {
		t.Error("lists that share memory are told apart")
	}
	v := nested(2)
	if apart(places(api.Perform{Props: v, Fault: api.Fault{Info: v}})) || apart(places(api.Perform{Props: v, Unsettled: []api.Unsettled{{State: api.State{Ann: v}}}})) || !apart(places(api.Perform{Props: v})) {
		t.Error("lists within a performative")
	}
}

// roomy is a copy all lists of which, empty ones too, have room to spare in which marks stand.
func roomy[T any](x T) T { return withMarks(reflect.ValueOf(x)).Interface().(T) }

func withMarks(v reflect.Value) reflect.Value {
	c := reflect.New(v.Type()).Elem()
	c.Set(v)
	switch v.Kind() {
	case reflect.Struct:
		for i := range v.NumField() {
			c.Field(i).Set(withMarks(v.Field(i)))
		}
	case reflect.Slice:
		n := v.Len()
		c.Set(reflect.MakeSlice(v.Type(), n+2, n+2))
		for i := range n {
			c.Index(i).Set(withMarks(v.Index(i)))
		}
		mark(c.Index(n))
		mark(c.Index(n + 1))
		c.Set(c.Slice(0, n))
	}
	return c
}

func mark(v reflect.Value) {
	switch v.Kind() {
	case reflect.Struct:
		for i := range v.NumField() {
			mark(v.Field(i))
		}
	case reflect.String:
		v.SetString("mark")
	case reflect.Int:
		v.SetInt(77)
	case reflect.Uint8, reflect.Uint64:
		v.SetUint(77)
	}
}

// wantNew calls twice what writes or reads, and wants what was handed in as it was, with its room, and the answers in memory of their own.
func wantNew[In, Out any](t *testing.T, in In, call func(In) (Out, api.Errno)) {
	t.Helper()
	before, there := withRoom(in), places(in)
	first, e := call(in)
	second, again := call(in)
	if withRoom(in) != before {
		t.Fatalf("%s changed: %s", brief(before), brief(withRoom(in)))
	}
	if e != again || !alike(first, second) {
		t.Fatalf("%s: %s, %d, then %s, %d", brief(before), brief(told(first)), e, brief(told(second)), again)
	}
	if !apart(there, places(first), places(second)) {
		t.Fatalf("%s: %s shares memory", brief(before), brief(told(first)))
	}
}

// read is Read without the place.
func read(body []byte) (api.Perform, api.Errno) {
	p, _, e := perform.Read(body)
	return p, e
}

// check is Check, with nothing beside the error.
func check(p api.Perform) ([]byte, api.Errno) { return nil, perform.Check(p) }

// DOC.md's R2: what is handed in stays, with its spare room, also where it is refused; what is answered is new memory.
func TestAnswersAreNew(t *testing.T) {
	for _, wrong := range []int{0, 30, 6} {
		c := chances(int64(151+wrong), wrong)
		for range 500 {
			p := roomy(c.perform(c.kind()))
			wantNew(t, p, perform.Write)
			wantNew(t, p, check)
			b := c.bytes(c.wire(c.kind()))
			if c.so() {
				b = append(b, c.payload()...)
			}
			wantNew(t, roomy(b), read)
		}
	}
	for _, kind := range kinds {
		p := roomy(full(kind))
		wantNew(t, p, perform.Write)
		wantNew(t, p, check)
		b, _ := perform.Write(p)
		wantNew(t, roomy(b), read)
		wantNew(t, kind, func(kind int) (api.Perform, api.Errno) { return perform.Blank(kind), api.OK })
	}
}

// DOC.md's R2: what stands alike in two places of the bytes is two lists in the answer.
func TestListsOfAnAnswer(t *testing.T) {
	m := `{symbol "a": [{} [uint 1]], symbol "b": [{} [uint 1]]}`
	s := `(ulong 39 [true true ` + m + `])`
	names := ` array symbol [symbol "longshore:accepted:list" symbol "longshore:released:list"]`
	source := `(ulong 40 [null null null null null null null ` + s + names + names + `])`
	b := encoded(parse(`(ulong 18 ["l" uint 0 true null null ` + source + `(ulong 41 [null null null null null` + names + `]) {binary "a": ` + s + `, binary "b": ` + s + `, binary "c": null} null null null ` + m + `])`))
	p, _, e := perform.Read(b)
	if e != api.OK || len(p.Unsettled) != 3 || len(p.Source.Outcomes) != 2 || len(p.Source.Caps) != 2 || len(p.Target.Caps) != 2 {
		t.Fatalf("Read: %s, %d", told(p), e)
	}
	if !apart(places(p)) {
		t.Error("lists of one answer share memory")
	}
	for i := range b {
		b[i] = 0
	}
	if !sample.Same(p.Props, parse(m)) || !sample.Same(p.Unsettled[1].State.Ann, parse(m)) || p.Unsettled[0].Tag != "a" || p.Name != "l" {
		t.Error("what was read changed with the bytes")
	}
}

// DOC.md's R2: Same changes nothing.
func TestAskedPerformativesStay(t *testing.T) {
	c := chances(171, 4)
	for range 1000 {
		kind := c.kind()
		p, q := roomy(c.perform(kind)), roomy(c.perform(kind))
		beforeP, beforeQ := withRoom(p), withRoom(q)
		if !perform.Same(p, p) || perform.Same(p, q) != alike(p, q) || perform.Same(p, q) != perform.Same(q, p) {
			t.Fatalf("Same of %s and %s", brief(told(p)), brief(told(q)))
		}
		if withRoom(p) != beforeP || withRoom(q) != beforeQ {
			t.Fatalf("%s or %s changed", brief(beforeP), brief(beforeQ))
		}
	}
}

// DOC.md's R3: no list and an empty one are the same.
func TestEmptyLists(t *testing.T) {
	none := api.Value{List: []api.Value{}}
	state := api.State{Fault: api.Fault{Info: none}, Ann: none, Inner: []api.State{}}
	node := api.Terminus{Default: state, Outcomes: []string{}, Caps: []string{}}
	for _, kind := range kinds {
		p := modelBlank(kind)
		want, _ := modelWrite(p)
		p.Props, p.Source, p.Target, p.Unsettled, p.State, p.Fault = none, node, node, []api.Unsettled{}, state, state.Fault
		wantBytes(t, p, want)
	}
	wantFault(t, []byte{}, api.ErrShort)
	p := perform.Blank(api.KAttach)
	p.Unsettled = []api.Unsettled{{Tag: "a", State: state}}
	p.Source = api.Terminus{Kind: api.KSource, Expiry: api.ExpSession, Default: state, Outcomes: []string{}, Caps: []string{}}
	p.Props = api.Value{Kind: api.Map, List: []api.Value{}}
	wantBytes(t, p, encoded(parse(`(ulong 18 ["" uint 0 false null null (ulong 40 []) null {binary "a": null} null null null {}])`)))
}

// DOC.md's R6: what came before a call, and what has become of its arguments, doesn't matter.
func TestNothingIsKept(t *testing.T) {
	for range 3 {
		TestExamplesOfWrite(t)
		TestExamplesOfCheck(t)
		TestExamplesOfRead(t)
		TestBlanksWrittenOut(t)
		p := perform.Blank(api.KOpen)
		p.Id, p.Host, p.Idle, p.MaxFrame = "other", "other", 9, 600
		b, _ := perform.Write(full(api.KAttach))
		q, _, _ := perform.Read(b)
		q.Unsettled[0].Tag, q.Source.Caps[0], q.Props.List[0] = "", "", api.Value{}
		wantRead(t, b, full(api.KAttach), len(b))
	}
}

// DOC.md's R1: calls end and do not panic where things nest ever so deep, or lists and texts are long.
func TestGreatArguments(t *testing.T) {
	deep := sample.Pairs(api.Value{}, sample.Within(1<<16-8, api.Value{}))
	inner := api.State{Kind: api.KTransactional, Txn: "t"}
	for range 1<<16 - 8 {
		inner = api.State{Kind: api.KTransactional, Txn: "t", Inner: []api.State{inner}}
	}
	great := string(make([]byte, 1<<24))
	names := slices.Repeat([]string{"longshore:accepted:list"}, 1<<20)
	for _, c := range []struct {
		kind int
		turn func(p *api.Perform)
		e    api.Errno
	}{
		{api.KOpen, func(p *api.Perform) { p.Props = deep }, api.ErrDeep},
		{api.KOpen, func(p *api.Perform) { p.Id = great }, api.ErrLong},
		{api.KOpen, func(p *api.Perform) { p.Host = great }, api.ErrLong},
		{api.KAttach, func(p *api.Perform) { p.Name = great }, api.ErrLong},
		{api.KTransfer, func(p *api.Perform) { p.HasTag, p.Tag = true, great }, api.ErrLong},
		{api.KTransfer, func(p *api.Perform) { p.State = inner }, api.ErrNested},
		{api.KDisposition, func(p *api.Perform) { p.State = api.State{Kind: api.KModified, Ann: deep} }, api.ErrDeep},
		{api.KClose, func(p *api.Perform) { p.Fault = api.Fault{Cond: "x", Info: deep} }, api.ErrDeep},
		{api.KClose, func(p *api.Perform) { p.Fault.Cond = great }, api.ErrTerm},
		{api.KClose, func(p *api.Perform) { p.State = inner }, api.ErrPerform},
		{api.KClose, func(p *api.Perform) { p.Props = deep }, api.ErrPerform},
		{api.KAttach, func(p *api.Perform) { p.Source = api.Terminus{Kind: api.KSource, Address: great} }, api.ErrAddress},
		{api.KAttach, func(p *api.Perform) { p.Source = api.Terminus{Kind: api.KSource, Outcomes: names} }, api.ErrTerm},
		{api.KAttach, func(p *api.Perform) { p.Source = api.Terminus{Kind: api.KSource, Default: inner} }, api.ErrNested},
		{api.KAttach, func(p *api.Perform) { p.Unsettled = make([]api.Unsettled, 1<<20) }, api.ErrMap},
		{api.KAttach, func(p *api.Perform) { p.Unsettled = []api.Unsettled{{Tag: great}} }, api.ErrLong},
		{api.KAttach, func(p *api.Perform) { p.Unsettled = []api.Unsettled{{State: inner}} }, api.ErrNested},
		{math.MinInt, func(p *api.Perform) { p.Kind, p.Props, p.State = math.MinInt, deep, inner }, api.ErrPerform},
	} {
		p := blank(c.kind, c.turn)
		if e := perform.Check(p); e != c.e {
			t.Errorf("Check of %d: %d, want %d", c.kind, e, c.e)
		}
		if b, e := perform.Write(p); e != c.e || len(b) != 0 {
			t.Errorf("Write of %d: %d bytes, %d, want %d", c.kind, len(b), e, c.e)
		}
		if !perform.Same(p, p) || perform.Same(p, perform.Blank(api.KFlow)) {
			t.Errorf("Same of %d", c.kind)
		}
	}
	caps := slices.Repeat([]string{"a"}, 1<<17)
	p := blank(api.KAttach, func(p *api.Perform) { p.Target = api.Terminus{Kind: api.KCoordinator, Caps: caps} })
	b, e := perform.Write(p)
	if e != api.OK {
		t.Errorf("Write with many caps: %d", e)
	}
	wantRead(t, b, p, len(b))
	for _, body := range [][]byte{make([]byte, 1<<24), slices.Repeat([]byte{0xd0, 0xff}, 1<<22), slices.Repeat([]byte{0xc0, 0xff, 1}, 1<<20), slices.Repeat(hex("00 53 14"), 1<<20), slices.Concat(hex("00 53 14 d0 7f ff ff ff ff ff ff ff"), make([]byte, 1<<20))} {
		if e := wantReadAsModel(t, body); e == api.OK {
			t.Errorf("Read of %d bytes that are nothing", len(body))
		}
	}
}
