package shape_test

import (
	"math/rand"
	"slices"
	"testing"

	"longshore/api"
	"longshore/sample"
	"longshore/shape"
)

// roomy is a record, its list and all lists in it with room to spare in which a mark stands.
func roomy(r api.Record) api.Record {
	return api.Record{Kind: r.Kind, Fields: sample.Roomy(sample.List(r.Fields...)).List}
}

func withRoom(r api.Record) string { return sample.WithRoom(sample.List(r.Fields...)) }

func scribble(r api.Record) { sample.Scribble(sample.List(r.Fields...)) }

// apart tells whether no two lists in some values share memory, also by the room behind them: each place is marked with a number of its own, and has it still when all are marked.
func apart(l ...api.Value) bool {
	next := uint64(0)
	mark(l, func(v *api.Value) { next++; v.Num = next })
	seen, is := uint64(0), true
	mark(l, func(v *api.Value) { seen++; is = is && v.Num == seen })
	return is
}

// mark goes through all places of all lists within some values.
func mark(l []api.Value, do func(*api.Value)) {
	for _, v := range l {
		room := v.List[:cap(v.List)]
		mark(room, do)
		for i := range room {
			do(&room[i])
		}
	}
}

// records are such as may be, of each kind, with the lists of some values in two places.
func records() []api.Record {
	c := chance{rand.New(rand.NewSource(74)), 0}
	var l []api.Record
	for _, kind := range composites() {
		l = append(l, record(kind, lean(kind)...), record(kind, full(kind)...))
		for range 20 {
			l = append(l, record(kind, c.fields(kind, false)...))
		}
	}
	two, caps := nested(3), sample.Array(api.Symbol, sample.Text(api.Symbol, "a"))
	l = append(l, record(api.KProperties, two, api.Value{}, api.Value{}, api.Value{}, api.Value{}, two, api.Value{}, api.Value{}, api.Value{}, api.Value{}, api.Value{}, api.Value{}, api.Value{}))
	l = append(l, record(api.KSource, append(sample.Many(7, api.Value{}), composite(api.KModified, api.Value{}, api.Value{}, two), caps, caps)...))
	return append(l, record(api.KAttach, with(with(lean(api.KAttach), 7, two), 11, two)...))
}

// values are such as Unpack takes.
func values() []api.Value {
	c := chance{rand.New(rand.NewSource(75)), 0}
	var l []api.Value
	for _, r := range records() {
		l = append(l, composite(r.Kind, r.Fields...), byName(r.Kind, r.Fields...), c.composite(r.Kind))
	}
	lone := sample.Text(api.Symbol, "a")
	return append(l, composite(api.KSource, append(sample.Many(8, api.Value{}), lone, lone)...))
}

// DOC.md's R2: records and values that are handed in stay, with their spare room, also those that are refused.
func TestWhatIsHandedInStays(t *testing.T) {
	c := chance{rand.New(rand.NewSource(76)), 5}
	for range 4000 {
		kind := c.kind()
		r, v := roomy(record(kind, c.fields(kind, false)...)), sample.Roomy(c.composite(kind))
		record, value := withRoom(r), sample.WithRoom(v)
		shape.Check(r)
		shape.Pack(r)
		shape.Unpack(v)
		shape.Kind(v)
		if withRoom(r) != record || sample.WithRoom(v) != value {
			t.Fatalf("%s or %s changed", record, value)
		}
	}
}

// DOC.md's R2: what Pack answers shares nothing with the record, with another answer, nor one list with another.
func TestPackedIsNew(t *testing.T) {
	for _, r := range records() {
		r := roomy(r)
		before := withRoom(r)
		one, _ := shape.Pack(r)
		other, _ := shape.Pack(r)
		want := sample.Written(one)
		if sample.Scribble(one); withRoom(r) != before {
			t.Fatalf("%s changed with what Pack answered", before)
		}
		if sample.Written(other) != want {
			t.Fatalf("Pack(%s): an answer changed with another one", before)
		}
		if scribble(r); sample.Written(other) != want {
			t.Fatalf("Pack(%s): an answer changed with the record", before)
		}
		if !apart(other) {
			t.Fatalf("Pack(%s): two lists of the answer share memory", before)
		}
	}
}

// DOC.md's R2: what Unpack answers shares nothing with the value, with another answer, nor one list with another.
func TestUnpackedIsNew(t *testing.T) {
	for _, v := range values() {
		v := sample.Roomy(v)
		before := sample.WithRoom(v)
		one, _, _ := shape.Unpack(v)
		other, _, _ := shape.Unpack(v)
		want := told(one)
		if scribble(one); sample.WithRoom(v) != before {
			t.Fatalf("%s changed with what Unpack answered", before)
		}
		if told(other) != want {
			t.Fatalf("Unpack(%s): an answer changed with another one", before)
		}
		if sample.Scribble(v); told(other) != want {
			t.Fatalf("Unpack(%s): an answer changed with the value", before)
		}
		if !apart(sample.List(other.Fields...)) {
			t.Fatalf("Unpack(%s): two lists of the answer share memory", before)
		}
	}
}

// DOC.md's R2: what Fields answers shares nothing with the program's own tables, with another answer, nor one list with another.
func TestFieldsAreNew(t *testing.T) {
	for _, kind := range composites() {
		one, _ := shape.Fields(kind)
		other, _ := shape.Fields(kind)
		for i := range one {
			kinds := one[i].Kinds[:cap(one[i].Kinds)]
			for j := range kinds {
				kinds[j] = 100*i + j
			}
		}
		for i := range one {
			for j, n := range one[i].Kinds[:cap(one[i].Kinds)] {
				if n != 100*i+j {
					t.Errorf("Fields(%d): two lists of the answer share memory", kind)
				}
			}
		}
		for i := range one[:cap(one)] {
			one[:cap(one)][i] = api.Field{Name: "scribbled"}
		}
		if !slices.EqualFunc(other, fields[kind], sameField) {
			t.Errorf("Fields(%d): an answer changed with another one", kind)
		}
	}
	TestFields(t)
	TestUnpackOfShortLists(t)
}

// DOC.md's R3: no list and an empty one are the same, in records and in values.
func TestEmptyLists(t *testing.T) {
	none, empty := []api.Value(nil), []api.Value{}
	for _, l := range [][]api.Value{none, empty} {
		wantPack(t, api.Record{Kind: api.KAccepted, Fields: l}, composite(api.KAccepted))
		wantUnpack(t, sample.Described(sample.Num(api.Ulong, api.KAccepted), api.Value{Kind: api.List, List: l}), record(api.KAccepted))
		wantUnpack(t, sample.Described(api.Value{Kind: api.Ulong, Num: api.KHeader, List: l}, api.Value{Kind: api.List, List: l}), record(api.KHeader, parts(`false ubyte 4 null false uint 0`)...))
		wantPack(t, record(api.KHeader, api.Value{Kind: api.Bool, List: l}, api.Value{List: l}, api.Value{List: l}, api.Value{List: l}, api.Value{Kind: api.Uint, List: l}), composite(api.KHeader))
		wantPack(t, record(api.KCoordinator, api.Value{Kind: api.Array, Elem: api.Symbol, List: l}), composite(api.KCoordinator, sample.Array(api.Symbol)))
		wantPackError(t, record(api.KDetach, api.Value{List: l}, api.Value{}, api.Value{}), api.ErrMust)
		wantPackError(t, api.Record{Kind: api.KEnd, Fields: l}, api.ErrFields)
	}
}

// DOC.md's R6: what came before a call, and what has become of its arguments, doesn't matter.
func TestNothingIsKept(t *testing.T) {
	for range 3 {
		TestExamplesOfKinds(t)
		TestExamplesOfDetach(t)
		TestExamplesOfOthers(t)
		v := parse(`(ulong 23 [(ulong 29 [symbol "a"])])`)
		r, _, _ := shape.Unpack(v)
		shape.Pack(r)
		sample.Scribble(v)
		scribble(r)
		wantPackError(t, r, api.ErrField)
	}
}

// DOC.md's R1: calls end and do not panic where values nest ever so deep, or lists are long.
func TestGreatArguments(t *testing.T) {
	deep := sample.Within(1<<16-4, api.Value{})
	wantUnpackError(t, deep, 0, api.ErrDeep)
	wantUnpackError(t, composite(api.KEnd, deep), 0, api.ErrDeep)
	wantPackError(t, record(api.KEnd, deep), api.ErrDeep)
	wantKind(t, sample.Described(deep, deep), 0)
	wantKind(t, sample.Described(sample.Num(api.Ulong, api.KEnd), deep), api.KEnd)
	many := sample.Many(1<<20, sample.Num(api.Uint, 1))
	wantKind(t, sample.Described(many...), 0)
	r := record(api.KEnd, many...)
	if e := shape.Check(r); e != api.ErrFields {
		t.Errorf("Check of a long record: %d", e)
	}
	if _, at, e := shape.Unpack(composite(api.KEnd, many...)); at != 1 || e != api.ErrFields {
		t.Errorf("Unpack of a long list: %d, %d", at, e)
	}
	long := sample.Text(api.Binary, string(make([]byte, 1<<20)))
	wantPack(t, record(api.KDeclared, long), composite(api.KDeclared, long))
	wantUnpack(t, composite(api.KDeclared, long), record(api.KDeclared, long))
}
