package sample_test

import (
	"math/rand"
	"testing"

	"longshore/api"
	"longshore/sample"
	"longshore/value"
)

// Each of these differs from each other one in one field.
func different() []api.Value {
	one := sample.Num(api.Uint, 1)
	return []api.Value{
		{}, sample.Num(api.Null, 1), sample.Signed(api.Null, -1), sample.Text(api.Null, "a"), sample.Text(api.Null, "{0 0 \"\" 0 0 []}"), sample.Array(1), sample.Array(2),
		sample.List(), sample.Pairs(), sample.Described(), sample.List(one), sample.List(one, one), sample.List(sample.List(one)), sample.Within(3, one), sample.List(sample.Many(3, one)...),
	}
}

func TestSameAndWritten(t *testing.T) {
	for i, a := range different() {
		for j, b := range different() {
			if sample.Same(a, b) != (i == j) || (sample.Written(a) == sample.Written(b)) != (i == j) {
				t.Errorf("%s and %s", sample.Written(a), sample.Written(b))
			}
		}
	}
}

func TestRoomIsSeen(t *testing.T) {
	for _, v := range different() {
		roomy := sample.Roomy(v)
		if !sample.Same(v, roomy) || cap(roomy.List) != len(roomy.List)+2 {
			t.Errorf("Roomy(%s): %s", sample.Written(v), sample.WithRoom(roomy))
		}
		before := sample.WithRoom(roomy)
		roomy.List[:cap(roomy.List)][len(roomy.List)+1].Num++
		if sample.WithRoom(roomy) == before || !sample.Same(v, roomy) {
			t.Errorf("a change behind a list is not seen: %s", before)
		}
	}
}

func TestScribble(t *testing.T) {
	inner := sample.Roomy(sample.List(sample.Num(api.Uint, 1)))
	v := sample.Roomy(sample.List(sample.Num(api.Uint, 2)))
	v.List[0] = inner
	sample.Scribble(v)
	for _, l := range [][]api.Value{v.List[:cap(v.List)], inner.List[:cap(inner.List)]} {
		for _, part := range l {
			if part.Text != "scribbled" {
				t.Errorf("left as it was: %s", sample.Written(part))
			}
		}
	}
}

func TestApart(t *testing.T) {
	one := func() api.Value { return sample.List(sample.Num(api.Uint, 1)) }
	apart := func() api.Value { return sample.List(one(), one(), sample.Within(2, one())) }
	if !sample.Apart(apart) {
		t.Error("parts without a list in common are not told apart")
	}
	shared := func() api.Value { l := one(); return sample.List(one(), l, sample.Within(2, l)) }
	if sample.Apart(shared) {
		t.Error("a list that two parts have is not seen")
	}
}

func TestWhatMayBe(t *testing.T) {
	kinds := map[int]int{}
	r := rand.New(rand.NewSource(1))
	for range 2000 {
		v := sample.MayBe(r.Intn, sample.Edges(), 3)
		if e := value.Check(v); e != api.OK {
			t.Fatalf("%s: %d", sample.Written(v), e)
		}
		kinds[v.Kind]++
	}
	if len(kinds) != api.Described+1 {
		t.Errorf("of so many values the kinds are %v", kinds)
	}
	if v := sample.Pairs(sample.Keyed(1024)...); value.Check(v) != api.OK || len(v.List) != 2048 {
		t.Errorf("Keyed(1024): %d parts", len(v.List))
	}
}
