package owned_test

import (
	"testing"

	"longshore/api"
	"longshore/owned"
	"longshore/sample"
)

// roomy is a state with lists wherever one may have some, with room behind them in which marks stand.
func roomy() api.State {
	v := func() api.Value {
		return sample.Roomy(sample.Pairs(sample.Text(api.Symbol, "k"), sample.List(sample.Num(api.Uint, 7), sample.List())))
	}
	s := func(inner ...api.State) api.State {
		mark := api.State{Kind: 99, Txn: "mark"}
		return api.State{Kind: api.KModified, Section: 1, Offset: 2, Fault: api.Fault{Cond: "x", Text: "y", Info: v()}, Failed: true, Elsewhere: true, Ann: v(), Txn: "t", Inner: append(inner, mark)[:len(inner)]}
	}
	return s(s(), s(s()))
}

// written is a state as text; with room, what stands behind its lists too.
func written(s api.State, room bool) string {
	value, inner := sample.Written, s.Inner
	if room {
		value, inner = sample.WithRoom, s.Inner[:cap(s.Inner)]
	}
	bare := sample.Written(sample.List(sample.Num(s.Kind, uint64(s.Section)), sample.Num(s.Offset, 0), sample.Text(0, s.Fault.Cond), sample.Text(0, s.Fault.Text), sample.Text(0, s.Txn)))
	if s.Failed && s.Elsewhere {
		bare += "both"
	}
	all := bare + value(s.Fault.Info) + value(s.Ann) + "("
	for _, x := range inner {
		all += written(x, room)
	}
	return all + ")"
}

// scribble overwrites all lists of a state, with their room.
func scribble(s api.State) {
	sample.Scribble(s.Fault.Info)
	sample.Scribble(s.Ann)
	for i := range s.Inner[:cap(s.Inner)] {
		scribble(s.Inner[:cap(s.Inner)][i])
		s.Inner[:cap(s.Inner)][i] = api.State{Kind: 98}
	}
}

// DOC.md's R2: the copy is the same; neither is changed by what is done to the other one, or to the room behind its lists.
func TestState(t *testing.T) {
	s := roomy()
	with, without := written(s, true), written(s, false)
	c, other := owned.State(s), owned.State(s)
	if written(c, false) != without || written(s, true) != with {
		t.Fatalf("%s, and what was handed in %s, before: %s", written(c, true), written(s, true), with)
	}
	scribble(c)
	if written(s, true) != with || written(other, false) != without {
		t.Errorf("scribbled over a copy: %s, %s", written(s, true), written(other, false))
	}
	scribble(s)
	if written(other, false) != without {
		t.Errorf("scribbled over what was handed in: %s", written(other, false))
	}
}

// DOC.md's R2: lists that are one in what was handed in are several in the copy; of an empty one the room is not kept.
func TestSharedLists(t *testing.T) {
	v := sample.Roomy(sample.List(sample.Num(api.Uint, 7)))
	inner := []api.State{{Ann: v}, {Ann: v}}
	c := owned.State(api.State{Ann: v, Fault: api.Fault{Info: v}, Inner: inner})
	sample.Scribble(c.Ann)
	if !sample.Same(c.Fault.Info, v) || !sample.Same(c.Inner[0].Ann, v) {
		t.Error("two lists of a copy share memory")
	}
	scribble(c.Inner[0])
	if !sample.Same(c.Inner[1].Ann, v) {
		t.Error("two lists of a copy share memory")
	}
	if c := owned.State(api.State{Inner: inner[:0], Ann: api.Value{List: v.List[:0]}}); cap(c.Inner) != 0 || cap(c.Ann.List) != 0 {
		t.Error("the room behind an empty list is kept")
	}
}

// DOC.md's R2, of a fault: its Info is another list.
func TestFault(t *testing.T) {
	f := api.Fault{Cond: "x", Text: "why", Info: sample.Roomy(sample.Pairs(sample.Text(api.Symbol, "k"), sample.List(sample.Num(api.Uint, 7))))}
	before := sample.WithRoom(f.Info)
	c := owned.Fault(f)
	if c.Cond != "x" || c.Text != "why" || !sample.Same(c.Info, f.Info) || sample.WithRoom(f.Info) != before {
		t.Errorf("%s, %s, %s", c.Cond, c.Text, sample.Written(c.Info))
	}
	sample.Scribble(c.Info)
	if sample.WithRoom(f.Info) != before {
		t.Errorf("scribbled over the copy: %s, before: %s", sample.WithRoom(f.Info), before)
	}
}

func TestValue(t *testing.T) {
	for _, v := range append(sample.Edges(), sample.Pairs(sample.Keyed(5)...), sample.Within(5, sample.Described(api.Value{}, api.Value{})), sample.Array(api.Uint)) {
		v = sample.Roomy(v)
		before := sample.WithRoom(v)
		c := owned.Value(v)
		if !sample.Same(c, v) || sample.WithRoom(v) != before {
			t.Errorf("%s: %s", before, sample.Written(c))
		}
		sample.Scribble(c)
		if sample.WithRoom(v) != before {
			t.Errorf("scribbled over the copy: %s, before: %s", sample.WithRoom(v), before)
		}
	}
}
