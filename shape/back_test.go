package shape_test

import (
	"math/rand"
	"testing"

	"longshore/api"
	"longshore/sample"
	"longshore/shape"
)

// chance makes records and values at random; one in so many of a record's values is any value, whether it suits or not.
type chance struct {
	*rand.Rand
	wrong int
}

func (c chance) pick(l []api.Value) api.Value { return l[c.Intn(len(l))] }

// fields are values for the fields of a composite; lone says that a Symbol may stand for an Array.
func (c chance) fields(kind int, lone bool) []api.Value {
	l := make([]api.Value, len(fields[kind]))
	for i, f := range fields[kind] {
		l[i] = c.field(f, lone)
	}
	return l
}

func (c chance) field(f api.Field, lone bool) api.Value {
	switch {
	case c.wrong > 0 && c.Intn(c.wrong) == 0:
		return c.pick(odd)
	case !f.Must && c.Intn(3) == 0:
		return api.Value{}
	case c.Intn(3) == 0 && f.Default.Kind != api.Null:
		return f.Default
	case f.Type == api.Composite:
		return c.composite(f.Kinds[c.Intn(len(f.Kinds))])
	case f.Type == api.AnyValue || f.Type == api.Map && c.Intn(2) == 0:
		if v := sample.MayBe(c.Intn, simple, 3); v.Kind == f.Type || f.Type == api.AnyValue && v.Kind != api.Null {
			return v
		}
	case f.Type == api.Symbols && lone && c.Intn(3) == 0:
		return sample.Text(api.Symbol, "lone")
	}
	return c.pick(suiting(f))
}

// composite is a value of a kind, with its descriptor in either form and Nulls at the end or not.
func (c chance) composite(kind int) api.Value {
	l := c.fields(kind, true)
	for len(l) > 0 && l[len(l)-1].Kind == api.Null && c.Intn(2) == 0 {
		l = l[:len(l)-1]
	}
	if c.wrong > 0 && c.Intn(c.wrong) == 0 {
		l = l[:c.Intn(len(l)+1)]
	}
	if c.Intn(2) == 0 {
		return byName(kind, l...)
	}
	return composite(kind, l...)
}

func (c chance) kind() int {
	l := composites()
	return l[c.Intn(len(l))]
}

var (
	odd    = anything()
	simple = append(sample.Edges(), sample.Text(api.Symbol, "a"))
)

// P7.3 to P7.5: records and values of all kinds, as they may be and with faults, against the second program.
func TestChances(t *testing.T) {
	for _, wrong := range []int{0, 40, 10, 3} {
		c := chance{rand.New(rand.NewSource(int64(70 + wrong))), wrong}
		good := 0
		for range 3000 {
			v := c.composite(c.kind())
			wantAsModel(t, v)
			kind := c.kind()
			r := record(kind, c.fields(kind, wrong > 0 && c.Intn(8) == 0)...)
			wantRecordAsModel(t, r)
			if shape.Check(r) == api.OK {
				good++
			}
			if t.Failed() {
				return
			}
		}
		if wrong == 0 && good != 3000 || good < 100 {
			t.Errorf("of 3000 records that were made with one fault in %d, %d are good", wrong, good)
		}
	}
}

// P7.6: where Unpack answers a record, Check of it is OK, Pack of it answers OK, and Unpack of that the same record.
func TestPackOfUnpack(t *testing.T) {
	c := chance{rand.New(rand.NewSource(71)), 0}
	for range 3000 {
		v := c.composite(c.kind())
		r, at, e := shape.Unpack(v)
		if at != 0 || e != api.OK {
			t.Fatalf("Unpack(%s): %d, %d", sample.Written(v), at, e)
		}
		if e := shape.Check(r); e != api.OK {
			t.Fatalf("Check of what Unpack(%s) answers: %d", sample.Written(v), e)
		}
		packed, e := shape.Pack(r)
		if e != api.OK {
			t.Fatalf("Pack of what Unpack(%s) answers: %d", sample.Written(v), e)
		}
		wantUnpack(t, packed, r)
		wantNoDefaults(t, packed)
		if t.Failed() {
			return
		}
	}
}

// P7.6: the record of what Pack made differs from what was packed in Nulls that are Defaults, and in its Composites; Pack of it is that value again.
func TestUnpackOfPack(t *testing.T) {
	c := chance{rand.New(rand.NewSource(72)), 0}
	for range 3000 {
		kind := c.kind()
		r := record(kind, c.fields(kind, false)...)
		v, e := shape.Pack(r)
		if e != api.OK {
			t.Fatalf("Pack(%s): %d", told(r), e)
		}
		back, _, e := shape.Unpack(v)
		if e != api.OK || back.Kind != kind || len(back.Fields) != len(r.Fields) {
			t.Fatalf("Unpack(%s): %s, %d", sample.Written(v), told(back), e)
		}
		for i, f := range fields[kind] {
			want := r.Fields[i]
			switch {
			case want.Kind == api.Null:
				want = f.Default
			case f.Type == api.Composite:
				inner, _, _ := shape.Unpack(want)
				want, _ = shape.Pack(inner)
			}
			if !sample.Same(back.Fields[i], want) {
				t.Fatalf("%s, packed and unpacked: field %d is %s", told(r), i, sample.Written(back.Fields[i]))
			}
		}
		wantPack(t, back, v)
		wantNoDefaults(t, v)
		if t.Failed() {
			return
		}
	}
}

// P7.7: no list that Pack makes ends in a Null, and none has a field's Default in it, also of the Composites within.
func wantNoDefaults(t *testing.T, v api.Value) {
	t.Helper()
	l := v.List[1].List
	if v.List[0].Kind != api.Ulong || v.List[1].Kind != api.List || len(l) > 0 && l[len(l)-1].Kind == api.Null {
		t.Errorf("Pack made %s", sample.Written(v))
	}
	for i, part := range l {
		f := fields[int(v.List[0].Num)][i]
		if part.Kind != api.Null && sample.Same(part, f.Default) {
			t.Errorf("Pack made %s: a Default at %d", sample.Written(v), i)
		}
		if f.Type == api.Composite && part.Kind != api.Null {
			wantNoDefaults(t, part)
		}
	}
}

// P7.6: of all values that say the same Pack makes one, however they say it.
func TestOneValue(t *testing.T) {
	for _, kind := range composites() {
		l := lean(kind)
		want := composite(kind, l...)
		for n := len(l); n > 0 && l[n-1].Kind == api.Null; n-- {
			want = composite(kind, l[:n-1]...)
		}
		written := append([]api.Value(nil), l...)
		for i, f := range fields[kind] {
			if l[i].Kind == api.Null {
				written[i] = f.Default
			}
		}
		for _, v := range []api.Value{want, composite(kind, l...), byName(kind, l...), composite(kind, written...), byName(kind, written...), byName(kind, want.List[1].List...)} {
			r, _, e := shape.Unpack(v)
			if e != api.OK {
				t.Errorf("Unpack(%s): %d", sample.Written(v), e)
			}
			wantPack(t, r, want)
		}
	}
}

// P7.6: also where the value is as deep as may be.
func TestDeepBack(t *testing.T) {
	for above, l := range deepRecords(nested(24)) {
		for _, r := range l {
			v, e := shape.Pack(r)
			if e != api.OK || depth(v) != above+24 {
				t.Fatalf("Pack of a record with a value below %d: %d, %d deep", above, e, depth(v))
			}
			back, _, _ := shape.Unpack(v)
			wantPack(t, back, v)
			wantUnpack(t, v, back)
		}
	}
}
