package terms_test

import (
	"math"
	"reflect"
	"slices"
	"testing"

	"longshore/api"
	"longshore/sample"
	"longshore/terms"
)

// span is where a list lies, up to the end of its room.
type span struct{ first, behind uintptr }

// spans are where all lists in something lie, those that stand in the room behind others too.
func spans(x any) []span {
	var l []span
	walk(reflect.ValueOf(x), func(list reflect.Value) {
		first := list.Pointer()
		l = append(l, span{first, first + uintptr(list.Len())*list.Type().Elem().Size()})
	})
	return l
}

// walk tells of all lists in something, each up to the end of its room, ahead of what stands in it.
func walk(v reflect.Value, tell func(reflect.Value)) {
	switch v.Kind() {
	case reflect.Struct:
		for i := range v.NumField() {
			walk(v.Field(i), tell)
		}
	case reflect.Slice:
		if v.Cap() > 0 {
			list := v.Slice(0, v.Cap())
			tell(list)
			for i := range list.Len() {
				walk(list.Index(i), tell)
			}
		}
	}
}

// apart tells whether no two lists share memory.
func apart(l ...[]span) bool {
	all := slices.Concat(l...)
	slices.SortFunc(all, func(a, b span) int { return int(int64(a.first) - int64(b.first)) })
	for i := 1; i < len(all); i++ {
		if all[i].first < all[i-1].behind {
			return false
		}
	}
	return true
}

func TestApart(t *testing.T) {
	l := make([]string, 2, 6)
	one := func(l []string) []span { return spans(api.Terminus{Caps: l}) }
	if !apart(one(l), one(make([]string, 2)), one(nil), one(nil), one(l[:0:0]), one(l[:0:0])) {
		t.Error("lists that share nothing are not told apart")
	}
	if apart(one(l), one(l)) || apart(one(l[:0:1]), one(l)) || !apart(one(l[:1:1]), one(l[1:])) || apart(one(l[:1]), one(l[1:])) || apart(one(l), one(l[4:6])) {
		t.Error("lists that share memory are told apart, or the other way round")
	}
	v := nested(2)
	if apart(spans(api.State{Ann: v, Fault: api.Fault{Info: v}})) || apart(spans(api.State{Inner: []api.State{{Ann: v}, {Fault: api.Fault{Info: sample.List(v)}}}})) || !apart(spans(full(api.KTransactional))) {
		t.Error("lists within a state")
	}
}

// roomyState is a state all lists of which have room to spare in which marks stand.
func roomyState(s api.State) api.State {
	s.Fault = roomyFault(s.Fault)
	s.Ann = sample.Roomy(s.Ann)
	l := make([]api.State, 0, len(s.Inner)+2)
	for _, inner := range s.Inner {
		l = append(l, roomyState(inner))
	}
	mark := api.State{Txn: "mark"}
	s.Inner = append(l, mark, mark)[:len(l)]
	return s
}

func roomyFault(f api.Fault) api.Fault {
	f.Info = sample.Roomy(f.Info)
	return f
}

func roomyTerminus(x api.Terminus) api.Terminus {
	x.Default = roomyState(x.Default)
	x.Outcomes = append(slices.Clone(x.Outcomes), "mark", "mark")[:len(x.Outcomes)]
	x.Caps = append(slices.Clone(x.Caps), "mark", "mark")[:len(x.Caps)]
	return x
}

// wantNew calls twice what packs or reads, and wants what was handed in as it was, with its room, and the answers in memory of their own.
func wantNew[In, Out any](t *testing.T, in In, call func(In) (Out, api.Errno)) {
	t.Helper()
	before, places := withRoom(in), spans(in)
	first, e := call(in)
	second, again := call(in)
	if withRoom(in) != before {
		t.Fatalf("%T %s changed: %s", in, before, withRoom(in))
	}
	if e != again || !alike(first, second) {
		t.Fatalf("%T %s: %s, %d, then %s, %d", in, before, told(first), e, told(second), again)
	}
	if !apart(places, spans(first), spans(second)) {
		t.Fatalf("%T %s: %s shares memory", in, before, told(first))
	}
}

// DOC.md's R2: what is handed in stays, with its spare room, also where it is refused; what is answered is new memory.
func TestAnswersAreNew(t *testing.T) {
	kinds := append(append([]int{api.KFault}, stateKinds...), terminusKinds...)
	for _, wrong := range []int{0, 20, 4} {
		c := chances(int64(90+wrong), wrong)
		for range 800 {
			wantNew(t, roomyFault(c.fault()), terms.PackFault)
			wantNew(t, roomyState(c.state(one(c, stateKinds, []int{0}))), terms.PackState)
			wantNew(t, roomyTerminus(c.terminus(one(c, terminusKinds, []int{0}))), terms.PackTerminus)
			v := sample.Roomy(c.composite(kinds[c.Intn(len(kinds))]))
			wantNew(t, v, terms.ReadFault)
			wantNew(t, v, terms.ReadState)
			wantNew(t, v, terms.ReadTerminus)
		}
	}
	for _, kind := range stateKinds {
		wantNew(t, roomyState(full(kind)), terms.PackState)
		v, _ := terms.PackState(full(kind))
		wantNew(t, v, terms.ReadState)
	}
	for _, kind := range terminusKinds {
		wantNew(t, roomyTerminus(fullTerminus(kind)), terms.PackTerminus)
		v, _ := terms.PackTerminus(fullTerminus(kind))
		wantNew(t, v, terms.ReadTerminus)
	}
	wantNew(t, roomyTerminus(api.Terminus{}), terms.PackTerminus)
	wantNew(t, sample.Roomy(api.Value{}), terms.ReadTerminus)
}

// DOC.md's R2: a list that stands in two places of what is handed in is two lists in the answer.
func TestSharedListsAreTakenApart(t *testing.T) {
	v := nested(3)
	twice := sample.Pairs(sample.Text(api.Symbol, "a"), v, sample.Text(api.Symbol, "b"), v)
	for _, s := range []api.State{{Kind: api.KModified, Ann: twice}, {Kind: api.KRejected, Fault: api.Fault{Cond: "x", Info: twice}}, {Kind: api.KTransactional, Txn: "t", Inner: []api.State{{Kind: api.KModified, Ann: twice}}}} {
		packed, e := terms.PackState(s)
		if e != api.OK || !apart(spans(packed)) {
			t.Errorf("PackState(%s): %d, lists that share memory", told(s), e)
		}
		x, e := terms.PackTerminus(api.Terminus{Kind: api.KSource, Default: s, Outcomes: finals[:2], Caps: finals[:2]})
		if e == api.OK && !apart(spans(x)) {
			t.Errorf("PackTerminus with %s: lists that share memory", told(s))
		}
	}
	ann := composite(api.KModified, api.Value{}, api.Value{}, twice)
	names := symbolsOf(finals)
	s, e := terms.ReadState(composite(api.KTransactional, sample.Text(api.Binary, "t"), ann))
	if e != api.OK || !apart(spans(s)) {
		t.Errorf("ReadState: %d, lists that share memory", e)
	}
	x, e := terms.ReadTerminus(composite(api.KSource, append(make([]api.Value, defaultAt), ann, names, names)...))
	if e != api.OK || !apart(spans(x)) || len(x.Outcomes) != 4 || len(x.Caps) != 4 {
		t.Errorf("ReadTerminus: %d, lists that share memory", e)
	}
}

// DOC.md's R2: Outcome and Same change nothing.
func TestAskedStatesStay(t *testing.T) {
	c := chances(95, 3)
	for range 1000 {
		a, b := roomyState(c.state(stateKinds[c.Intn(7)])), roomyState(c.state(stateKinds[c.Intn(7)]))
		beforeA, beforeB := withRoom(a), withRoom(b)
		terms.Outcome(a)
		if !terms.Same(a, a) || terms.Same(a, b) != alike(a, b) || terms.Same(a, b) != terms.Same(b, a) {
			t.Fatalf("Same of %s and %s", told(a), told(b))
		}
		if withRoom(a) != beforeA || withRoom(b) != beforeB {
			t.Fatalf("%s or %s changed", beforeA, beforeB)
		}
	}
}

// DOC.md's R3: no list and an empty one are the same, in faults, states, termini and values.
func TestEmptyLists(t *testing.T) {
	none := api.Value{List: []api.Value{}}
	wantPackFault(t, api.Fault{Cond: "x", Info: none}, faultValue("x"), api.OK)
	wantPackFault(t, api.Fault{Cond: "x", Info: api.Value{Kind: api.Map, List: none.List}}, faultValue("x", api.Value{}, sample.Pairs()), api.OK)
	empty := api.State{Fault: api.Fault{Info: none}, Ann: none, Inner: []api.State{}}
	for _, kind := range stateKinds {
		s := empty
		s.Kind, s.Txn = kind, lean(kind).Txn
		want, _ := modelPackState(lean(kind))
		wantPackState(t, s, want, api.OK)
	}
	for _, kind := range append(terminusKinds, 0) {
		want, _ := modelPackTerminus(api.Terminus{Kind: kind})
		wantPackTerminus(t, api.Terminus{Kind: kind, Default: empty, Outcomes: []string{}, Caps: []string{}}, want, api.OK)
	}
	for _, kind := range stateKinds[1:5] {
		wantReadState(t, sample.Described(api.Value{Kind: api.Ulong, Num: uint64(kind), List: none.List}, api.Value{Kind: api.List, List: none.List}), lean(kind), api.OK)
	}
	wantReadState(t, composite(api.KModified, none, none, none), lean(api.KModified), api.OK)
	wantReadTerminus(t, composite(api.KTarget, none, none, none, none, none, api.Value{Kind: api.Array, Elem: api.Symbol, List: none.List}), ofSession(api.KTarget), api.OK)
}

// DOC.md's R6: what came before a call, and what has become of its arguments, doesn't matter.
func TestNothingIsKept(t *testing.T) {
	for range 3 {
		TestExamplesOfFaults(t)
		TestExamplesOfStates(t)
		TestExamplesOfTermini(t)
		TestExamplesOfOutcomes(t)
		x := fullTerminus(api.KSource)
		v, _ := terms.PackTerminus(x)
		want := told(x)
		x.Outcomes[0], x.Caps[0], x.Default.Ann.List[0] = "", "", api.Value{}
		back, e := terms.ReadTerminus(v)
		if e != api.OK || told(back) != want {
			t.Errorf("ReadTerminus: %s, %d, want %s", told(back), e, want)
		}
		sample.Scribble(v)
		if told(back) != want {
			t.Errorf("what was read changed with the value: %s", told(back))
		}
	}
}

// DOC.md's R1: calls end and do not panic where things nest ever so deep, or lists and texts are long.
func TestGreatArguments(t *testing.T) {
	deep := sample.Pairs(api.Value{}, sample.Within(1<<16-8, api.Value{}))
	great := string(make([]byte, 1<<24))
	inner := api.State{Kind: api.KTransactional, Txn: "t"}
	for range 1 << 16 {
		inner = api.State{Kind: api.KTransactional, Txn: "t", Inner: []api.State{inner}}
	}
	if !terms.Same(inner, inner) || terms.Same(inner, inner.Inner[0]) || terms.Outcome(inner) {
		t.Error("Same, Outcome of a state that nests deep")
	}
	wantDeep := func(e, want api.Errno) {
		t.Helper()
		if e != want {
			t.Errorf("%d, want %d", e, want)
		}
	}
	_, e := terms.PackState(inner)
	wantDeep(e, api.ErrNested)
	_, e = terms.PackState(api.State{Kind: api.KAccepted, Inner: []api.State{inner}})
	wantDeep(e, api.ErrTerm)
	_, e = terms.PackTerminus(api.Terminus{Kind: api.KSource, Default: inner})
	wantDeep(e, api.ErrNested)
	_, e = terms.PackTerminus(api.Terminus{Kind: api.KTarget, Default: inner})
	wantDeep(e, api.ErrTerm)
	_, e = terms.PackFault(api.Fault{Cond: "x", Info: deep})
	wantDeep(e, api.ErrDeep)
	_, e = terms.PackState(api.State{Kind: api.KModified, Ann: deep})
	wantDeep(e, api.ErrDeep)
	_, e = terms.ReadState(composite(api.KModified, api.Value{}, api.Value{}, deep))
	wantDeep(e, api.ErrDeep)
	_, e = terms.PackFault(api.Fault{Cond: great})
	wantDeep(e, api.ErrTerm)
	_, e = terms.PackState(api.State{Kind: api.KDeclared, Txn: great})
	wantDeep(e, api.ErrTerm)
	_, e = terms.PackTerminus(api.Terminus{Kind: api.KSource, Address: great})
	wantDeep(e, api.ErrAddress)
	_, e = terms.PackTerminus(api.Terminus{Kind: api.KSource, Outcomes: slices.Repeat(finals, 1<<18)})
	wantDeep(e, api.ErrTerm)
	caps := slices.Repeat(goodCaps, 1<<15)
	wantPackTerminus(t, api.Terminus{Kind: api.KCoordinator, Caps: caps}, composite(api.KCoordinator, symbolsOf(caps)), api.OK)
	x, e := terms.ReadTerminus(composite(api.KCoordinator, symbolsOf(caps)))
	wantDeep(e, api.OK)
	if !slices.Equal(x.Caps, caps) {
		t.Errorf("%d caps, read as %d", len(caps), len(x.Caps))
	}
	_, e = terms.PackState(api.State{Kind: api.KReceived, Section: math.MaxInt, Offset: math.MinInt})
	wantDeep(e, api.ErrTerm)
}
