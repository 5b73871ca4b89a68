package terms_test

import (
	"math"
	"reflect"
	"slices"
	"testing"

	"longshore/api"
	"longshore/sample"
	"longshore/terms"
)

// P8.2: each kind of a state, with all that it has and with no more than it must.
func TestStatesOfEachKind(t *testing.T) {
	for _, c := range []struct {
		s    api.State
		want string
	}{
		{lean(api.KReceived), `(ulong 35 [uint 0 ulong 0])`},
		{full(api.KReceived), `(ulong 35 [uint 1 ulong 2])`},
		{lean(api.KAccepted), `(ulong 36 [])`},
		{lean(api.KRejected), `(ulong 37 [])`},
		{full(api.KRejected), `(ulong 37 [(ulong 29 [symbol "x" "why" {symbol "in": {}}])])`},
		{lean(api.KReleased), `(ulong 38 [])`},
		{lean(api.KModified), `(ulong 39 [])`},
		{full(api.KModified), `(ulong 39 [true true {symbol "in": {symbol "in": {}}}])`},
		{api.State{Kind: api.KModified, Failed: true}, `(ulong 39 [true])`},
		{api.State{Kind: api.KModified, Elsewhere: true, Ann: sample.Pairs()}, `(ulong 39 [null true {}])`},
		{api.State{Kind: api.KModified, Ann: sample.Pairs()}, `(ulong 39 [null null {}])`},
		{full(api.KDeclared), `(ulong 51 [binary "t1"])`},
		{lean(api.KTransactional), `(ulong 52 [binary "t"])`},
		{full(api.KTransactional), `(ulong 52 [binary "t1" (ulong 39 [true null {symbol "in": {}}])])`},
	} {
		wantPackState(t, c.s, parse(c.want), api.OK)
		wantReadState(t, parse(c.want), c.s, api.OK)
	}
}

// P8.2, P8.4, P8.5: numbers that are no state's kind, 0 among them.
func TestKindsOfStates(t *testing.T) {
	for _, kind := range append(numbers(-3, 300), math.MinInt, math.MaxInt, 1<<32+api.KAccepted) {
		_, e := terms.PackState(lean(kind))
		if is := slices.Contains(stateKinds, kind); is != (e == api.OK) || !is && e != api.ErrTerm {
			t.Errorf("PackState of the kind %d: %d", kind, e)
		}
		if terms.Outcome(lean(kind)) != slices.Contains(outcomeKinds, kind) || terms.Outcome(api.State{Kind: kind, Txn: "t", Failed: true, Offset: -1}) != slices.Contains(outcomeKinds, kind) {
			t.Errorf("Outcome of the kind %d", kind)
		}
		s := api.State{Kind: api.KTransactional, Txn: "t", Inner: []api.State{lean(kind)}}
		want := api.ErrNested
		if slices.Contains(outcomeKinds, kind) {
			want = api.OK
		}
		if _, e := terms.PackState(s); e != want {
			t.Errorf("PackState with the kind %d within: %d", kind, e)
		}
		x := api.Terminus{Kind: api.KSource, Default: lean(kind)}
		if kind == 0 {
			want = api.OK
		}
		if _, e := terms.PackTerminus(x); e != want {
			t.Errorf("PackTerminus with the kind %d as its Default: %d", kind, e)
		}
	}
}

func numbers(first, last int) []int {
	var l []int
	for n := first; n <= last; n++ {
		l = append(l, n)
	}
	return l
}

// extras are states with just one field that is not zero, by that field.
func extras() map[string][]api.State {
	return map[string][]api.State{
		"Section":   {{Section: 1}, {Section: -1}, {Section: 1 << 32}},
		"Offset":    {{Offset: 1}, {Offset: -1}, {Offset: math.MinInt}},
		"Fault":     {{Fault: api.Fault{Cond: "x"}}, {Fault: api.Fault{Text: "x"}}, {Fault: api.Fault{Info: sample.Pairs()}}, {Fault: api.Fault{Info: sample.Num(api.Null, 1)}}, {Fault: api.Fault{Info: sample.Num(25, 0)}}},
		"Failed":    {{Failed: true}},
		"Elsewhere": {{Elsewhere: true}},
		"Ann":       {{Ann: sample.Pairs()}, {Ann: a}, {Ann: sample.Num(api.Null, 1)}, {Ann: sample.Text(api.Null, "a")}, {Ann: api.Value{Elem: 1}}, {Ann: api.Value{List: []api.Value{{}}}}, {Ann: sample.Pairs(a)}},
		"Txn":       {{Txn: "t"}, {Txn: "\x00"}, {Txn: long(33)}},
		"Inner":     {{Inner: []api.State{{}}}, {Inner: []api.State{{Kind: api.KAccepted}}}, {Inner: []api.State{{Kind: api.KReceived}, {}}}},
	}
}

// with is a struct of which one field is as in another one.
func with[S any](s, other S, name string) S {
	reflect.ValueOf(&s).Elem().FieldByName(name).Set(reflect.ValueOf(other).FieldByName(name))
	return s
}

// P8.2: each field for each kind that does not have it.
func TestFieldsThatAStateDoesNotHave(t *testing.T) {
	fields := reflect.TypeFor[api.State]().NumField()
	if len(extras()) != fields-1 {
		t.Fatalf("states have %d fields", fields)
	}
	for name, l := range extras() {
		for _, other := range l {
			for _, kind := range append(stateKinds, 0, 40) {
				s := with(lean(kind), other, name)
				if kind > 0 && kind != 40 && slices.Contains(stateHas[kind], name) {
					wantStateAsModel(t, s)
					continue
				}
				wantPackState(t, s, api.Value{}, api.ErrTerm)
				wantPackState(t, with(full(kind), other, name), api.Value{}, api.ErrTerm)
			}
		}
	}
}

// P8.2: what the kind does not have is looked at ahead of all that it has.
func TestExtraFieldsComeFirst(t *testing.T) {
	wantPackState(t, api.State{Kind: api.KTransactional, Txn: "t", Inner: []api.State{{}}}, api.Value{}, api.ErrNested)
	wantPackState(t, api.State{Kind: api.KTransactional, Txn: "t", Inner: []api.State{{}}, Failed: true}, api.Value{}, api.ErrTerm)
	wantPackState(t, api.State{Kind: api.KModified, Ann: sample.Num(api.Null, 1)}, api.Value{}, api.ErrExtra)
	wantPackState(t, api.State{Kind: api.KModified, Ann: sample.Num(api.Null, 1), Txn: "t"}, api.Value{}, api.ErrTerm)
	fault := api.Fault{Cond: "x", Info: nested(33)}
	wantPackState(t, api.State{Kind: api.KRejected, Fault: fault}, api.Value{}, api.ErrDeep)
	wantPackState(t, api.State{Kind: api.KRejected, Fault: fault, Inner: []api.State{{}}}, api.Value{}, api.ErrTerm)
}

// P8.2: Section from 0 to MaxWord, Offset 0 or above.
func TestReceived(t *testing.T) {
	for _, section := range []int{math.MinInt, -1, 0, 1, api.MaxWord - 1, api.MaxWord, api.MaxWord + 1, math.MaxInt} {
		for _, offset := range []int{math.MinInt, -1, 0, 1, api.MaxWord + 1, math.MaxInt} {
			s := api.State{Kind: api.KReceived, Section: section, Offset: offset}
			if section < 0 || section > 4294967295 || offset < 0 {
				wantPackState(t, s, api.Value{}, api.ErrTerm)
				continue
			}
			wantPackState(t, s, composite(api.KReceived, sample.Num(api.Uint, uint64(section)), sample.Num(api.Ulong, uint64(offset))), api.OK)
		}
	}
}

// P8.4: an Offset of 2^63 or more is ErrTerm.
func TestReadReceived(t *testing.T) {
	for _, section := range []uint64{0, 1, api.MaxWord} {
		for _, offset := range []uint64{0, 1, math.MaxInt64} {
			v := composite(api.KReceived, sample.Num(api.Uint, section), sample.Num(api.Ulong, offset))
			wantReadState(t, v, api.State{Kind: api.KReceived, Section: int(section), Offset: int(offset)}, api.OK)
		}
		for _, offset := range []uint64{1 << 63, 1<<63 + 1, math.MaxUint64} {
			wantReadState(t, composite(api.KReceived, sample.Num(api.Uint, section), sample.Num(api.Ulong, offset)), api.State{}, api.ErrTerm)
		}
	}
	for s, want := range map[string]api.Errno{
		`(ulong 35 [])`: api.ErrMust, `(ulong 35 [uint 1])`: api.ErrMust, `(ulong 35 [null ulong 1])`: api.ErrMust, `(ulong 35 [uint 1 null])`: api.ErrMust,
		`(ulong 35 [ulong 1 ulong 1])`: api.ErrField, `(ulong 35 [uint 1 uint 1])`: api.ErrField, `(ulong 35 [uint 1 long 1])`: api.ErrField,
	} {
		wantReadState(t, parse(s), api.State{}, want)
	}
}

// P8.2: of a Fault that is not none PackFault's error, also where one field alone is not zero.
func TestRejected(t *testing.T) {
	none := composite(api.KRejected)
	wantPackState(t, api.State{Kind: api.KRejected, Fault: api.Fault{Info: api.Value{List: []api.Value{}}}}, none, api.OK)
	for _, f := range []api.Fault{{Text: "a"}, {Text: "\xff"}, {Info: sample.Pairs()}, {Info: sample.Num(api.Null, 1)}, {Info: sample.Text(api.Null, "a")}, {Info: api.Value{Elem: 1}}, {Info: api.Value{List: []api.Value{{}}}}, {Info: sample.Num(25, 0)}} {
		wantPackState(t, api.State{Kind: api.KRejected, Fault: f}, api.Value{}, api.ErrTerm)
	}
	for _, cond := range goodConds {
		wantPackState(t, api.State{Kind: api.KRejected, Fault: api.Fault{Cond: cond}}, composite(api.KRejected, faultValue(cond)), api.OK)
	}
	for _, cond := range badConds[1:] {
		wantPackState(t, api.State{Kind: api.KRejected, Fault: api.Fault{Cond: cond}}, api.Value{}, api.ErrTerm)
	}
	for _, bad := range badMaps {
		wantPackState(t, api.State{Kind: api.KRejected, Fault: api.Fault{Cond: "x", Info: bad.v}}, api.Value{}, bad.e)
	}
}

// P8.4: a fault within that is there is read as a fault: one without a condition is none that may be.
func TestReadRejected(t *testing.T) {
	for s, want := range map[string]api.Fault{`(ulong 37 [])`: {}, `(ulong 37 [null])`: {}, `(symbol "longshore:rejected:list" [null])`: {}, `(ulong 37 [(ulong 29 [symbol "x"])])`: {Cond: "x"}, `(ulong 37 [(symbol "longshore:fault:list" [symbol "x" "" null])])`: {Cond: "x"}, `(ulong 37 [(ulong 29 [symbol "x" "a" {}])])`: {Cond: "x", Text: "a", Info: sample.Pairs()}} {
		wantReadState(t, parse(s), api.State{Kind: api.KRejected, Fault: want}, api.OK)
	}
	for s, want := range map[string]api.Errno{
		`(ulong 37 [(ulong 29 [symbol ""])])`: api.ErrTerm, `(ulong 37 [(ulong 29 [symbol "" "a"])])`: api.ErrTerm, `(ulong 37 [(ulong 29 [symbol "X"])])`: api.ErrTerm,
		`(ulong 37 [(ulong 29 [])])`: api.ErrMust, `(ulong 37 [(ulong 36 [])])`: api.ErrField, `(ulong 37 [uint 1])`: api.ErrField, `(ulong 37 [(ulong 29 [symbol "x" uint 1])])`: api.ErrField, `(ulong 37 [null null])`: api.ErrFields,
	} {
		wantReadState(t, parse(s), api.State{}, want)
	}
	wantReadState(t, composite(api.KRejected, faultValue("x", sample.Text(api.String, long(4097)))), api.State{}, api.ErrTerm)
}

// P8.2: Ann is Null, or a Map that may be.
func TestAnn(t *testing.T) {
	for _, ann := range goodMaps {
		s := api.State{Kind: api.KModified, Failed: true, Ann: ann}
		want := composite(api.KModified, sample.Num(api.Bool, 1), api.Value{}, ann)
		if ann.Kind == api.Null {
			want = composite(api.KModified, sample.Num(api.Bool, 1))
		}
		wantPackState(t, s, want, api.OK)
		wantReadState(t, want, s, api.OK)
	}
	for _, bad := range badMaps {
		wantPackState(t, api.State{Kind: api.KModified, Ann: bad.v}, api.Value{}, bad.e)
	}
}

// P8.4: Bools that are not there, Null, false, true.
func TestReadModified(t *testing.T) {
	bools := []api.Value{{}, sample.Num(api.Bool, 0), sample.Num(api.Bool, 1)}
	for _, failed := range bools {
		for _, elsewhere := range bools {
			want := api.State{Kind: api.KModified, Failed: failed.Num == 1, Elsewhere: elsewhere.Num == 1}
			wantReadState(t, composite(api.KModified, failed, elsewhere), want, api.OK)
			wantReadState(t, byName(api.KModified, failed, elsewhere, api.Value{}), want, api.OK)
			want.Ann = nested(2)
			wantReadState(t, composite(api.KModified, failed, elsewhere, nested(2)), want, api.OK)
		}
		wantReadState(t, composite(api.KModified, failed), api.State{Kind: api.KModified, Failed: failed.Num == 1}, api.OK)
	}
	for s, want := range map[string]api.Errno{`(ulong 39 [uint 1])`: api.ErrField, `(ulong 39 [true uint 1])`: api.ErrField, `(ulong 39 [true true []])`: api.ErrField, `(ulong 39 [true true {} null])`: api.ErrFields} {
		wantReadState(t, parse(s), api.State{}, want)
	}
}

// P8.2, P8.4: Txn has 1 to 32 bytes, whichever.
func TestTxn(t *testing.T) {
	for _, kind := range []int{api.KDeclared, api.KTransactional} {
		for _, txn := range goodTxns {
			s, v := api.State{Kind: kind, Txn: txn}, composite(kind, sample.Text(api.Binary, txn))
			wantPackState(t, s, v, api.OK)
			wantReadState(t, v, s, api.OK)
			wantReadState(t, byName(kind, sample.Text(api.Binary, txn)), s, api.OK)
		}
		for _, txn := range badTxns {
			wantPackState(t, api.State{Kind: kind, Txn: txn}, api.Value{}, api.ErrTerm)
			wantReadState(t, composite(kind, sample.Text(api.Binary, txn)), api.State{}, api.ErrTerm)
		}
		for n := range 256 {
			txn := string([]byte{byte(n)})
			wantPackState(t, api.State{Kind: kind, Txn: txn}, composite(kind, sample.Text(api.Binary, txn)), api.OK)
		}
		wantReadState(t, composite(kind), api.State{}, api.ErrMust)
		wantReadState(t, composite(kind, sample.Text(api.String, "t")), api.State{}, api.ErrField)
	}
	wantReadState(t, composite(api.KDeclared, sample.Text(api.Binary, "t"), api.Value{}), api.State{}, api.ErrFields)
}

// P8.2: Inner is none, or just one state, which is an outcome; then its own errors; Txn comes first.
func TestInner(t *testing.T) {
	one := func(l ...api.State) api.State { return api.State{Kind: api.KTransactional, Txn: "t", Inner: l} }
	txn := sample.Text(api.Binary, "t")
	wantPackState(t, one(), composite(api.KTransactional, txn), api.OK)
	for _, kind := range outcomeKinds {
		inner, _ := modelPackState(full(kind))
		wantPackState(t, one(full(kind)), composite(api.KTransactional, txn, inner), api.OK)
		wantPackState(t, one(full(kind), full(kind)), api.Value{}, api.ErrNested)
		wantPackState(t, one(full(kind), api.State{}), api.Value{}, api.ErrNested)
		wantPackState(t, one(api.State{Kind: kind, Txn: "t"}), api.Value{}, api.ErrTerm)
		wantPackState(t, one(api.State{Kind: kind, Inner: []api.State{{}}}), api.Value{}, api.ErrTerm)
	}
	for _, kind := range []int{0, api.KReceived, api.KDeclared, api.KTransactional, api.KFault, api.KSource, api.KOutcome, -1} {
		wantPackState(t, one(full(kind)), api.Value{}, api.ErrNested)
		wantPackState(t, one(api.State{Kind: kind, Txn: long(33), Section: -1}), api.Value{}, api.ErrNested)
	}
	for _, bad := range badMaps {
		wantPackState(t, one(api.State{Kind: api.KModified, Ann: bad.v}), api.Value{}, bad.e)
		wantPackState(t, one(api.State{Kind: api.KRejected, Fault: api.Fault{Cond: "x", Info: bad.v}}), api.Value{}, bad.e)
	}
	for _, s := range []api.State{one(api.State{Kind: api.KReceived}), one(lean(api.KAccepted), lean(api.KAccepted)), one(api.State{Kind: api.KModified, Ann: nested(33)})} {
		for _, txn := range badTxns {
			s.Txn = txn
			wantPackState(t, s, api.Value{}, api.ErrTerm)
		}
	}
}

// P8.4: the outcome within is read as a state, and its errors are handed on.
func TestReadInner(t *testing.T) {
	txn := sample.Text(api.Binary, "t")
	wantReadState(t, composite(api.KTransactional, txn, api.Value{}), lean(api.KTransactional), api.OK)
	for _, kind := range outcomeKinds {
		v, _ := modelPackState(full(kind))
		for _, inner := range []api.Value{v, byName(kind, v.List[1].List...)} {
			wantReadState(t, composite(api.KTransactional, txn, inner), api.State{Kind: api.KTransactional, Txn: "t", Inner: []api.State{full(kind)}}, api.OK)
			wantReadState(t, composite(api.KTransactional, sample.Text(api.Binary, ""), inner), api.State{}, api.ErrTerm)
		}
	}
	for s, want := range map[string]api.Errno{
		`(ulong 35 [uint 1 ulong 1])`: api.ErrField, `(ulong 51 [binary "t"])`: api.ErrField, `(ulong 52 [binary "t"])`: api.ErrField, `uint 1`: api.ErrField, `(ulong 36 [null])`: api.ErrFields, `(ulong 37 [(ulong 29 [])])`: api.ErrMust,
		`(ulong 37 [(ulong 29 [symbol ""])])`: api.ErrTerm, `(ulong 37 [(ulong 29 [symbol "X"])])`: api.ErrTerm, `(ulong 39 [uint 1])`: api.ErrField,
	} {
		wantReadState(t, composite(api.KTransactional, txn, parse(s)), api.State{}, want)
	}
}

// P8.2: shape.Pack's error where what stands within is too deep for the whole, though not on its own.
func TestDeepStates(t *testing.T) {
	for deep := 24; deep <= 32; deep++ {
		modified := api.State{Kind: api.KModified, Ann: nested(deep)}
		rejected := api.State{Kind: api.KRejected, Fault: api.Fault{Cond: "x", Info: nested(deep)}}
		for _, c := range []struct {
			s    api.State
			most int
		}{
			{modified, 30}, {rejected, 28},
			{api.State{Kind: api.KTransactional, Txn: "t", Inner: []api.State{modified}}, 28},
			{api.State{Kind: api.KTransactional, Txn: "t", Inner: []api.State{rejected}}, 26},
		} {
			want := api.ErrDeep
			if deep <= c.most {
				want = api.OK
			}
			if e := wantStateAsModel(t, c.s); e != want {
				t.Errorf("PackState of the kind %d with a Map %d deep: %d", c.s.Kind, deep, e)
			}
		}
	}
}

// P8.4: shape.Unpack's errors are handed on; of another kind that it takes it is ErrTerm.
func TestReadStateOfOthers(t *testing.T) {
	for s, want := range map[string]api.Errno{
		`null`: api.ErrComposite, `uint 36`: api.ErrComposite, `[]`: api.ErrComposite, `(uint 36 [])`: api.ErrComposite, `(ulong 36 {})`: api.ErrComposite, `(ulong 34 [])`: api.ErrComposite, `(ulong 117 [])`: api.ErrComposite, `(symbol "longshore:accepted" [])`: api.ErrComposite,
		`(ulong 36 [null])`: api.ErrFields, `(ulong 38 [true])`: api.ErrFields,
		`(ulong 29 [symbol "x"])`: api.ErrTerm, `(ulong 40 [])`: api.ErrTerm, `(ulong 41 [])`: api.ErrTerm, `(ulong 48 [])`: api.ErrTerm, `(ulong 49 [])`: api.ErrTerm, `(ulong 50 [binary "t"])`: api.ErrTerm, `(ulong 68 [ubyte 0])`: api.ErrTerm, `(ulong 23 [])`: api.ErrTerm,
		`(ulong 29 [])`: api.ErrMust, `(ulong 40 [uint 1])`: api.ErrField,
	} {
		wantReadState(t, parse(s), api.State{}, want)
	}
	wantReadState(t, sample.Num(api.Null, 1), api.State{}, api.ErrExtra)
	wantReadState(t, composite(api.KAccepted, sample.Num(api.Bool, 2)), api.State{}, api.ErrNum)
	wantReadState(t, composite(api.KModified, api.Value{}, api.Value{}, nested(31)), api.State{}, api.ErrDeep)
	for _, kind := range []int{api.KAccepted, api.KReleased} {
		wantReadState(t, composite(kind), lean(kind), api.OK)
		wantReadState(t, byName(kind), lean(kind), api.OK)
	}
}

// different are states each of which differs from each other one, most of them in one field from one another; many may not be.
func different() []api.State {
	l := []api.State{{}}
	for _, kind := range append(stateKinds, -1, 40) {
		l = append(l, api.State{Kind: kind})
	}
	for _, states := range extras() {
		for _, s := range states {
			l = append(l, s)
			s.Kind = api.KModified
			l = append(l, s)
		}
	}
	ok := api.State{Kind: api.KAccepted}
	for _, inner := range [][]api.State{{ok, ok}, {ok, {}}, {{}, ok}, {ok, ok, ok}, {{Txn: "t"}}, {{Inner: []api.State{ok}}}, {{Inner: []api.State{ok, ok}}}, {{Inner: []api.State{{Inner: []api.State{{Failed: true}}}}}}, {{Ann: sample.List()}}, {{Fault: api.Fault{Info: sample.List()}}}} {
		l = append(l, api.State{Inner: inner})
	}
	for _, v := range []api.Value{sample.Num(api.Float, 0), sample.Num(api.Float, 1<<31), sample.Num(api.Float, 0x7fc00000), sample.List(sample.List()), sample.List(api.Value{}), sample.Pairs(a, a), sample.Array(1), sample.Array(2)} {
		l = append(l, api.State{Ann: v}, api.State{Fault: api.Fault{Info: v}})
	}
	return append(l, api.State{Fault: api.Fault{Cond: "a", Text: "b"}}, api.State{Fault: api.Fault{Cond: "b", Text: "a"}}, api.State{Txn: "T"}, api.State{Section: 1, Offset: 1}, api.State{Failed: true, Elsewhere: true})
}

// P8.5: two states are the same where all their fields are, also of such as may not be.
func TestSame(t *testing.T) {
	l, again := different(), map[string]api.State{}
	for _, s := range different() {
		again[told(s)] = s
	}
	if len(again) != len(l) {
		t.Fatalf("of %d states %d differ", len(l), len(again))
	}
	for _, a := range l {
		for _, b := range l {
			if got := terms.Same(a, again[told(b)]); got != (told(a) == told(b)) {
				t.Errorf("Same(%s, %s): %v", told(a), told(b), got)
			}
		}
	}
}

// P8.5, and DOC.md's R3: no list and an empty one are the same, at every place.
func TestSameOfEmptyLists(t *testing.T) {
	none := api.State{Inner: []api.State{{}}, Ann: sample.List(sample.List()), Fault: api.Fault{Info: sample.Pairs()}}
	empty := api.State{
		Inner: []api.State{{Inner: []api.State{}, Ann: api.Value{List: []api.Value{}}, Fault: api.Fault{Info: api.Value{List: []api.Value{}}}}},
		Ann:   sample.List(api.Value{Kind: api.List, List: []api.Value{}}), Fault: api.Fault{Info: api.Value{Kind: api.Map, List: []api.Value{}}},
	}
	if !terms.Same(none, empty) || !terms.Same(empty, none) {
		t.Error("no lists and empty ones are not the same")
	}
	for _, kind := range stateKinds {
		s := full(kind)
		if s.Inner == nil {
			s.Inner = []api.State{}
		}
		if s.Ann.List == nil {
			s.Ann.List = []api.Value{}
		}
		if s.Fault.Info.List == nil {
			s.Fault.Info.List = []api.Value{}
		}
		if !terms.Same(s, full(kind)) {
			t.Errorf("a state of the kind %d is not the same with empty lists", kind)
		}
		wantStateAsModel(t, s)
	}
}
