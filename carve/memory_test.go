package carve_test

import (
	"bytes"
	"cmp"
	"fmt"
	"math/rand"
	"reflect"
	"slices"
	"testing"

	"longshore/api"
	"longshore/carve"
	"longshore/sample"
)

// lies is where a list lies, up to the end of its room.
type lies struct{ first, behind uintptr }

// places are where all lists in something lie, those that stand in the room behind others too.
func places(x any) []lies {
	var l []lies
	walk(reflect.ValueOf(x), func(list reflect.Value) {
		first := list.Pointer()
		l = append(l, lies{first, first + uintptr(list.Len())*list.Type().Elem().Size()})
	})
	return l
}

// walk tells of all lists in something, each up to the end of its room, ahead of what stands in it.
func walk(v reflect.Value, tell func(reflect.Value)) {
	switch v.Kind() {
	case reflect.Struct:
		for i := range v.NumField() {
			walk(v.Field(i), tell)
		}
	case reflect.Slice:
		if v.Cap() == 0 {
			return
		}
		list := v.Slice(0, v.Cap())
		tell(list)
		for i := 0; list.Type().Elem().Kind() != reflect.Uint8 && i < list.Len(); i++ {
			walk(list.Index(i), tell)
		}
	}
}

// apart tells whether no two lists share memory.
func apart(l ...[]lies) bool {
	all := slices.Concat(l...)
	slices.SortFunc(all, func(a, b lies) int { return cmp.Compare(a.first, b.first) })
	for i := 1; i < len(all); i++ {
		if all[i].first < all[i-1].behind {
			return false
		}
	}
	return true
}

// distinct are places without those that are there twice.
func distinct(l []lies) []lies {
	var out []lies
	for _, x := range l {
		if !slices.Contains(out, x) {
			out = append(out, x)
		}
	}
	return out
}

func TestApart(t *testing.T) {
	b := make([]byte, 2, 6)
	if !apart(places(b), places(make([]byte, 2)), places([]byte(nil)), places([]byte(nil))) || !apart(places(b[:1:1]), places(b[1:])) {
		t.Error("bytes that share nothing are not told apart")
	}
	if apart(places(b), places(b)) || apart(places(b[:0:1]), places(b)) || apart(places(b[:1]), places(b[1:])) || apart(places(b), places(b[4:6])) {
		t.Error("bytes that share memory are told apart")
	}
	v := nested(3)
	if apart(places(api.State{Ann: v, Fault: api.Fault{Info: v}})) || apart(places(api.State{Ann: v, Inner: []api.State{{Ann: v}}})) || apart(places([][]byte{b, b})) || !apart(places(api.State{Ann: v, Fault: api.Fault{Info: nested(3)}})) {
		t.Error("lists within others")
	}
}

// roomy is a copy all lists of which, empty ones too, have room to spare in which marks stand.
func roomy[T any](x T) T { return withMarks(reflect.ValueOf(x)).Interface().(T) }

func withMarks(v reflect.Value) reflect.Value {
	c := reflect.New(v.Type()).Elem()
	c.Set(v)
	switch v.Kind() {
	case reflect.Struct:
		for i := range v.NumField() {
			c.Field(i).Set(withMarks(v.Field(i)))
		}
	case reflect.Slice:
		n := v.Len()
		c.Set(reflect.MakeSlice(v.Type(), n+3, n+3))
		for i := range n {
			c.Index(i).Set(withMarks(v.Index(i)))
		}
		for i := n; i < n+3; i++ {
			mark(c.Index(i))
		}
		c.Set(c.Slice(0, n))
	}
	return c
}

// mark overwrites something that has no lists, or such as are not looked at.
func mark(v reflect.Value) {
	switch v.Kind() {
	case reflect.Struct:
		for i := range v.NumField() {
			mark(v.Field(i))
		}
	case reflect.String:
		v.SetString("mark")
	case reflect.Int:
		v.SetInt(77)
	case reflect.Uint8, reflect.Uint64:
		v.SetUint(77)
	case reflect.Bool:
		v.SetBool(true)
	}
}

// scribble overwrites all lists in something, with their room.
func scribble(x any) {
	var all []reflect.Value
	walk(reflect.ValueOf(x), func(list reflect.Value) { all = append(all, list) })
	for _, list := range all {
		for i := range list.Len() {
			mark(list.Index(i))
		}
	}
}

// withRoom is something as text, with what stands in the room behind its lists.
func withRoom(x any) string {
	s := fmt.Sprintf("%+v", x)
	walk(reflect.ValueOf(x), func(list reflect.Value) { s += fmt.Sprintf(" %+v", list) })
	return s
}

func TestRoomIsSeen(t *testing.T) {
	for _, s := range append(append([]api.State{}, states...), oddStates...) {
		c := roomy(s)
		before := withRoom(c)
		if !alike(c, s) || !apart(places(c), places(s)) || withRoom(c) != before {
			t.Errorf("a copy with room: %s", before)
		}
		c.Inner[:cap(c.Inner)][len(c.Inner)].Section++
		if !alike(c, s) || withRoom(c) == before {
			t.Errorf("what changes in the room is not seen: %s", before)
		}
		scribble(c)
		if len(c.Inner) > 0 && c.Inner[0].Kind != 77 || len(c.Ann.List) > 0 && c.Ann.List[0].Text != "mark" || len(c.Fault.Info.List) > 0 && c.Fault.Info.List[0].Text != "mark" {
			t.Errorf("scribbled over: %s", withRoom(c))
		}
	}
}

// DOC.md's R2, of Split: the transfer and the payload stay, with their room, also where they are refused; frames are new memory.
func TestFramesAreNew(t *testing.T) {
	r := rand.New(rand.NewSource(122))
	for range 400 {
		p, payload, most, channel := roomy(anyTransfer(r)), roomy([]byte(text(r.Intn(2000)))), 512+r.Intn(600), r.Intn(70000)
		if r.Intn(3) == 0 {
			p.State = roomy(annotated(r.Intn(700)))
		}
		wantNewFrames(t, p, channel, payload, most)
	}
	for _, c := range refusedTransfers() {
		wantNewFrames(t, roomy(c.p), 0, roomy([]byte("abc")), 512)
	}
	wantNewFrames(t, roomy(fullTransfer(states[6])), 0, roomy([]byte(text(api.MaxMessage))), 512)
	wantNewFrames(t, roomy(fullTransfer(states[6])), 0, make([]byte, api.MaxMessage+1), 512)
}

func wantNewFrames(t *testing.T, p api.Perform, channel int, payload []byte, most int) {
	t.Helper()
	before, bytesBefore := withRoom(p), bytes.Clone(payload[:cap(payload)])
	first, e := carve.Split(p, channel, payload, most)
	second, again := carve.Split(p, channel, payload, most)
	if withRoom(p) != before || !bytes.Equal(payload[:cap(payload)], bytesBefore) {
		t.Fatalf("Split changed what was handed in: %s", brief(before))
	}
	if e != again || !alike(first, second) {
		t.Fatalf("Split of the same twice: %d frames, %d, then %d, %d", len(first), e, len(second), again)
	}
	if !apart(places(p), places(payload), places(first), places(second)) {
		t.Fatalf("Split(%s, %d bytes): the frames share memory", told(p), len(payload))
	}
	kept := plain(second)
	scribble(first)
	scribble(p)
	scribble(payload)
	if !alike(second, kept) {
		t.Fatalf("Split(%s, %d bytes): frames changed when others did", told(p), len(payload))
	}
}

// rows are transfers with all that may be kept of them.
func rows(r *rand.Rand) []came {
	all := append(append([]api.State{}, states...), oddStates...)
	var l []came
	for range 30 {
		p := further(more, state(all[r.Intn(len(all))]))
		switch r.Intn(8) {
		case 0, 1, 2:
			p.More = false
		case 3:
			p.Aborted = true
		case 4:
			p.DeliveryId = 9
		}
		if r.Intn(3) == 0 {
			p.State = zeros[r.Intn(len(zeros))]
		}
		if r.Intn(3) == 0 {
			p.DeliveryId, p.HasTag, p.Tag = 7, true, "t"
		}
		l = append(l, came{p, text(r.Intn(30))})
	}
	return l
}

// DOC.md's R2, of On: transfers and payloads stay, with their room, and are not kept: what comes out is the same where each of them is scribbled over behind its call, and so is each delivery behind its own; and all of them are memory apart.
func TestDeliveriesAreNew(t *testing.T) {
	r := rand.New(rand.NewSource(124))
	for range 60 {
		j, again, m := joiner(t, 60), joiner(t, 60), modelJoiner{most: 60}
		var all [][]lies
		var kept, want []api.Delivery
		var handed []any
		for _, c := range rows(r) {
			p, payload := roomy(c.p), roomy([]byte(c.payload))
			before := withRoom(p) + withRoom(payload)
			d, whole, e := j.On(p, payload)
			if withRoom(p)+withRoom(payload) != before {
				t.Fatalf("On changed what was handed in: %s", brief(before))
			}
			wanted, wantedWhole, wantedE := m.on(c.p, c.payload)
			q, bytes := roomy(c.p), roomy([]byte(c.payload))
			d2, whole2, e2 := again.On(q, bytes)
			if !alike(d, wanted) || !alike(d2, wanted) || whole != wantedWhole || whole2 != wantedWhole || e != wantedE || e2 != wantedE {
				t.Fatalf("On(%s): %s, %v, %d; had what came before been scribbled over: %s, %v, %d; want %s, %v, %d", told(c), told(d), whole, e, told(d2), whole2, e2, told(wanted), wantedWhole, wantedE)
			}
			scribble(q)
			scribble(bytes)
			scribble(d2)
			kept, want, handed = append(kept, d), append(want, wanted), append(handed, p, payload)
			all = append(all, places(p), places(payload), places(d))
		}
		if !apart(all...) {
			t.Fatal("deliveries share memory with others, or with what was handed in")
		}
		for _, x := range handed {
			scribble(x)
		}
		wantDeliveries(t, "kept", kept, want)
	}
}

// DOC.md's R2: whoever has a delivery may go on in its room, and a Joiner goes on in none that it has handed out.
func TestRoomOfDeliveries(t *testing.T) {
	j := joiner(t, 1000)
	var got []api.Delivery
	for i := range 50 {
		var d api.Delivery
		for k := range 7 {
			d, _, _ = j.On(transfer(i, "t", more, state(states[6])), []byte(text(i+k)))
		}
		d, _, _ = j.On(further(), []byte("end"))
		got = append(got, d)
		_ = append(d.Data, long(cap(d.Data)-len(d.Data))...)
	}
	var all [][]lies
	for i, d := range got {
		data := ""
		for k := range 7 {
			data += text(i + k)
		}
		if want := (api.Delivery{Id: i, Tag: "t", Format: -1, State: states[6], Data: []byte(data + "end")}); !alike(d, want) {
			t.Fatalf("%s, want %s", told(d), told(want))
		}
		all = append(all, places(d))
	}
	if !apart(all...) {
		t.Error("deliveries of one Joiner share memory")
	}
}

// DOC.md's R2: the lists of one delivery are apart, also where those that were handed in are not.
func TestListsOfADelivery(t *testing.T) {
	v := nested(4)
	inner := []api.State{{Kind: api.KModified, Ann: v}, {Kind: api.KModified, Ann: v, Fault: api.Fault{Info: v}}}
	s := api.State{Kind: api.KTransactional, Ann: v, Fault: api.Fault{Info: v}, Inner: []api.State{{Inner: inner}, {Inner: inner, Ann: v}, {Inner: inner[:0]}, {Ann: api.Value{List: v.List[:0]}}}}
	for _, p := range [][]api.Perform{{transfer(7, "t", state(s))}, {transfer(7, "t", state(s), more), further()}, {transfer(7, "t", more), further(state(s), more), further()}} {
		j := joiner(t, 10)
		var d api.Delivery
		for _, p := range p {
			d, _, _ = j.On(p, []byte("a"))
		}
		if !alike(d.State, s) || !apart(places(d), distinct(places(s))) {
			t.Errorf("the state of %s", told(d))
		}
	}
}

// DOC.md's R3: no bytes and none at all are the same, in and out.
func TestNoBytes(t *testing.T) {
	for _, b := range [][]byte{nil, {}, make([]byte, 0, 9)} {
		frames, e := carve.Split(transfer(0, "t"), 0, b, 512)
		if e != api.OK || len(frames) != 1 || string(frames[0]) != modelFrame(0, modelWrite(transfer(0, "t"))) {
			t.Errorf("Split without a payload: %x, %d", frames, e)
		}
		for _, most := range []int{0, 10} {
			j := joiner(t, most)
			for range 2 {
				d, whole, e := j.On(transfer(7, "t", more), b)
				d2, whole2, e2 := j.On(further(), b)
				if whole || e != api.OK || !alike(d, api.Delivery{}) || !whole2 || e2 != api.OK || !alike(d2, said(7, "t", "")) {
					t.Errorf("a delivery without bytes: %s, %v, %d, then %s, %v, %d", told(d), whole, e, told(d2), whole2, e2)
				}
			}
		}
	}
}

// DOC.md's R1: states that nest ever so deep, payloads of any length; what is kept of one that is passed over is nothing.
func TestGreatArguments(t *testing.T) {
	deep := api.State{}
	v := sample.Num(api.Uint, 7)
	for range 1 << 14 {
		deep = api.State{Kind: api.KTransactional, Inner: []api.State{deep}}
		v = sample.List(v)
	}
	deep.Ann = v
	if _, e := carve.Split(transfer(0, "t", state(deep)), 0, nil, 512); e == api.OK {
		t.Error("Split takes a state that nests too deep")
	}
	j := joiner(t, 10)
	wantOn(t, j, transfer(7, "t", more, state(deep)), "a", api.OK, true, 1)
	d, whole, e := j.On(further(), []byte("b"))
	levels := 0
	for s := d.State; len(s.Inner) == 1; s = s.Inner[0] {
		levels++
	}
	if !whole || e != api.OK || levels != 1<<14 || string(d.Data) != "ab" {
		t.Errorf("a deep state: %v, %d, %d levels", whole, e, levels)
	}
	wantOn(t, j, transfer(7, "t", more), text(1<<24), api.ErrTooMuch, true, 0)
	wantOn(t, j, further(more), text(1<<24), api.OK, true, 0)
	wantOn(t, j, further(aborted), text(1<<24), api.OK, false, 0)
	wantRefused(t, transfer(0, "t"), 0, make([]byte, 1<<26), 512, api.ErrLong)
}

// DOC.md's R6: what was called before, at other Joiners, doesn't matter.
func TestNothingIsShared(t *testing.T) {
	for range 3 {
		TestExamplesOfSplit(t)
		TestExamplesOfAJoiner(t)
	}
}
