package perform_test

import (
	"reflect"
	"testing"

	"longshore/api"
	"longshore/perform"
	"longshore/sample"
)

// wantSame holds Same against what is wanted, either way round.
func wantSame(t *testing.T, a, b api.Perform, want bool) {
	t.Helper()
	if perform.Same(a, b) != want || perform.Same(b, a) != want {
		t.Errorf("Same of %s and %s is not %v", brief(told(a)), brief(told(b)), want)
	}
}

// P9.5: each field by itself, also of performatives that may not be.
func TestSameFieldByField(t *testing.T) {
	bases := []api.Perform{{}, {Kind: -1}}
	for _, kind := range kinds {
		bases = append(bases, perform.Blank(kind), full(kind))
	}
	for name, l := range extras() {
		for _, base := range bases {
			for i, x := range l {
				p := with(base, name, x)
				wantSame(t, p, with(base, name, x), true)
				wantSame(t, p, base, alike(p, base))
				for _, y := range l[:i] {
					wantSame(t, p, with(base, name, y), false)
				}
			}
		}
	}
	for kind := -3; kind < 60; kind++ {
		wantSame(t, api.Perform{Kind: kind}, api.Perform{Kind: 16}, kind == 16)
		wantSame(t, api.Perform{Kind: kind, Handle: 1}, api.Perform{Kind: kind}, false)
	}
}

// P9.5: no two fields stand for one another.
func TestSameTellsFieldsApart(t *testing.T) {
	var l []api.Perform
	for name, some := range extras() {
		l = append(l, with(api.Perform{}, name, some[0]))
	}
	for i, p := range l {
		for j, q := range l {
			wantSame(t, p, q, i == j)
		}
	}
}

// turned are a performative and others that differ from it in one thing within.
func turned() (api.Perform, []api.Perform) {
	p := full(api.KAttach)
	p.State, p.Fault = full(api.KTransfer).State, fullFault
	p.Source.Default = api.State{Kind: api.KTransactional, Txn: "t", Inner: []api.State{{Kind: api.KRejected, Fault: fullFault}}}
	var l []api.Perform
	turn := func(f func(q *api.Perform)) {
		q := clone(reflect.ValueOf(p)).Interface().(api.Perform)
		f(&q)
		l = append(l, q)
	}
	turn(func(q *api.Perform) { q.Unsettled[0], q.Unsettled[1] = q.Unsettled[1], q.Unsettled[0] })
	turn(func(q *api.Perform) { q.Unsettled = q.Unsettled[:1] })
	turn(func(q *api.Perform) { q.Unsettled = append(q.Unsettled, api.Unsettled{}) })
	turn(func(q *api.Perform) { q.Unsettled[1].Tag = "" })
	turn(func(q *api.Perform) { q.Unsettled[1].State.Failed = true })
	turn(func(q *api.Perform) { q.Unsettled[0].State.Ann.List[1].List[0].Text = "an" })
	turn(func(q *api.Perform) { q.Unsettled[0].State.Ann.List[1].List[1] = sample.List() })
	turn(func(q *api.Perform) { q.Source.Kind = api.KTarget })
	turn(func(q *api.Perform) { q.Source.Address = "" })
	turn(func(q *api.Perform) { q.Source.Durable = 1 })
	turn(func(q *api.Perform) { q.Source.Expiry = 1 })
	turn(func(q *api.Perform) { q.Source.Timeout = 1 })
	turn(func(q *api.Perform) { q.Source.Dynamic = false })
	turn(func(q *api.Perform) { q.Source.Mode = 0 })
	turn(func(q *api.Perform) { q.Source.Filter = "" })
	turn(func(q *api.Perform) { q.Source.Default.Txn = "u" })
	turn(func(q *api.Perform) { q.Source.Default.Inner[0].Fault.Text = "" })
	turn(func(q *api.Perform) { q.Source.Default.Inner[0].Fault.Info.List = nil })
	turn(func(q *api.Perform) { q.Source.Outcomes = q.Source.Outcomes[:1] })
	turn(func(q *api.Perform) { q.Source.Outcomes[1] = "" })
	turn(func(q *api.Perform) {
		q.Source.Outcomes[0], q.Source.Outcomes[1] = q.Source.Outcomes[1], q.Source.Outcomes[0]
	})
	turn(func(q *api.Perform) { q.Source.Caps = nil })
	turn(func(q *api.Perform) { q.Source.Caps[0] = "b" })
	turn(func(q *api.Perform) { q.Target.Caps[2] = "b" })
	turn(func(q *api.Perform) { q.Target.Caps = append(q.Target.Caps, "") })
	turn(func(q *api.Perform) { q.Target.Address = "topic/u" })
	turn(func(q *api.Perform) { q.Source, q.Target = q.Target, q.Source })
	turn(func(q *api.Perform) { q.Props.List[0].Kind = api.String })
	turn(func(q *api.Perform) { q.Props.List[1].Num = 1 })
	turn(func(q *api.Perform) { q.Props.Elem = 1 })
	turn(func(q *api.Perform) { q.State.Ann.List[0].Text = "" })
	turn(func(q *api.Perform) { q.State.Inner = []api.State{{}} })
	turn(func(q *api.Perform) { q.Fault.Cond = "" })
	turn(func(q *api.Perform) { q.Fault.Text = "" })
	turn(func(q *api.Perform) { q.Fault.Info.Num = 1 })
	turn(func(q *api.Perform) { q.Fault.Info.List[1].List = []api.Value{{}} })
	return p, l
}

// clone is a copy that shares no list.
func clone(v reflect.Value) reflect.Value {
	c := reflect.New(v.Type()).Elem()
	c.Set(v)
	switch v.Kind() {
	case reflect.Struct:
		for i := range v.NumField() {
			c.Field(i).Set(clone(v.Field(i)))
		}
	case reflect.Slice:
		c.Set(reflect.MakeSlice(v.Type(), v.Len(), v.Len()))
		for i := range v.Len() {
			c.Index(i).Set(clone(v.Index(i)))
		}
	}
	return c
}

// P9.5: what differs deep within, in values, states, termini and lists.
func TestSameDeepWithin(t *testing.T) {
	p, l := turned()
	wantSame(t, p, clone(reflect.ValueOf(p)).Interface().(api.Perform), true)
	for i, q := range l {
		wantSame(t, p, q, false)
		wantSame(t, q, clone(reflect.ValueOf(q)).Interface().(api.Perform), true)
		for _, r := range l[:i] {
			wantSame(t, q, r, false)
		}
	}
}

// P9.5: nil and empty are the same, in all lists; values whose numbers mean the same are not.
func TestSameOfEmptyLists(t *testing.T) {
	none := api.Value{List: []api.Value{}}
	state := api.State{Fault: api.Fault{Info: none}, Ann: none, Inner: []api.State{}}
	node := api.Terminus{Default: state, Outcomes: []string{}, Caps: []string{}}
	empty := api.Perform{Props: none, Source: node, Target: node, Unsettled: []api.Unsettled{}, State: state, Fault: state.Fault}
	wantSame(t, empty, api.Perform{}, true)
	for _, kind := range kinds {
		p := empty
		p.Kind = kind
		wantSame(t, p, api.Perform{Kind: kind}, true)
	}
	wantSame(t, api.Perform{Unsettled: []api.Unsettled{{State: state}}}, api.Perform{Unsettled: []api.Unsettled{{}}}, true)
	plus, minus := sample.Num(api.Double, 0), sample.Num(api.Double, 1<<63)
	wantSame(t, api.Perform{Props: plus}, api.Perform{Props: minus}, false)
	nan := sample.Num(api.Double, 0x7ff8000000000001)
	wantSame(t, api.Perform{Props: nan}, api.Perform{Props: nan}, true)
}

// P9.5, P9.7: Same of all that are made here, also such as may not be: with itself, either way round, over a third one.
func TestSameOfAnything(t *testing.T) {
	l := anything()
	same := make([][]bool, len(l))
	for i, p := range l {
		if !perform.Same(p, p) {
			t.Fatalf("%s is not the same as itself", brief(told(p)))
		}
		same[i] = make([]bool, len(l))
		for j, q := range l {
			same[i][j] = perform.Same(p, q)
		}
	}
	for i := range l {
		for j := range l {
			if same[i][j] != same[j][i] {
				t.Fatalf("Same hangs on the order: %s, %s", brief(told(l[i])), brief(told(l[j])))
			}
			if !same[i][j] {
				continue
			}
			for k := range l {
				if same[j][k] && !same[i][k] {
					t.Fatalf("Same does not go on from %s to %s", brief(told(l[i])), brief(told(l[k])))
				}
			}
			if i > j && !alike(l[i], l[j]) {
				t.Fatalf("%s is the same as %s", brief(told(l[i])), brief(told(l[j])))
			}
		}
	}
}
