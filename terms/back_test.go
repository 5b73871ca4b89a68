package terms_test

import (
	"math"
	"math/rand"
	"slices"
	"testing"

	"longshore/api"
	"longshore/sample"
	"longshore/shape"
	"longshore/terms"
)

// chance makes faults, states, termini and values at random; one in so many of their fields is as it may not be.
type chance struct {
	*rand.Rand
	wrong int
}

func chances(seed int64, wrong int) chance { return chance{rand.New(rand.NewSource(seed)), wrong} }

func (c chance) amiss() bool { return c.wrong > 0 && c.Intn(c.wrong) == 0 }

// one is one of those that may be, or now and then of those that may not.
func one[T any](c chance, good, bad []T) T {
	if c.amiss() {
		good = bad
	}
	return good[c.Intn(len(good))]
}

// some are a few, or none.
func some[T any](c chance, good, bad []T) []T {
	var l []T
	for range c.Intn(4) {
		l = append(l, one(c, good, bad))
	}
	return l
}

func (c chance) so() bool { return c.Intn(2) == 0 }

func (c chance) pairs() api.Value {
	if c.amiss() {
		l := badMaps
		return l[c.Intn(len(l))].v
	}
	if c.so() {
		if v := sample.MayBe(c.Intn, simple, 3); v.Kind == api.Map {
			return v
		}
	}
	if c.wrong > 0 && c.so() {
		return nested(24 + c.Intn(9))
	}
	l := goodMaps
	if c.Intn(50) > 0 {
		l = l[:len(l)-1] // the last one takes long
	}
	return c.pick(l)
}

var simple = append(sample.Edges(), sample.Text(api.Symbol, "a"))

func (c chance) fault() api.Fault {
	return api.Fault{Cond: one(c, goodConds, badConds), Text: one(c, goodTexts, badTexts), Info: c.pairs()}
}

// state is of a kind, with what that has, and now and then with more.
func (c chance) state(kind int) api.State {
	s := api.State{
		Kind: kind, Section: one(c, []int{0, 1, api.MaxWord}, []int{-1, api.MaxWord + 1, math.MinInt}), Offset: one(c, []int{0, 1, math.MaxInt}, []int{-1, math.MinInt}),
		Failed: c.so(), Elsewhere: c.so(), Ann: c.pairs(), Txn: one(c, goodTxns, badTxns),
	}
	if c.so() || c.amiss() {
		s.Fault = c.fault()
	}
	if kind == api.KTransactional && c.so() {
		s.Inner = append(s.Inner, c.state(one(c, outcomeKinds, append(stateKinds, 0, 1))))
		if c.amiss() {
			s.Inner = append(s.Inner, lean(api.KAccepted))
		}
	}
	if c.amiss() && c.so() {
		return s
	}
	return only(s)
}

func (c chance) terminus(kind int) api.Terminus {
	x := api.Terminus{
		Kind: kind, Address: one(c, goodTexts, badTexts), Durable: one(c, []int{0, 1, 2}, []int{-1, 3}), Expiry: one(c, []int{0, 1, 2, 3}, []int{-1, 4}), Timeout: one(c, []int{0, 1, api.MaxWord}, []int{-1, api.MaxWord + 1}), Dynamic: c.so(),
		Mode: one(c, []int{0, 1}, []int{-1, 2}), Filter: one(c, goodTexts, badTexts), Caps: some(c, goodCaps, badCaps),
	}
	if c.so() {
		x.Default = c.state(one(c, outcomeKinds, append(stateKinds, 0, 1)))
	}
	x.Outcomes = c.finals()
	if c.amiss() && c.so() {
		return x
	}
	return onlyTerminus(x)
}

// finals are names of outcomes in any order, none twice.
func (c chance) finals() []string {
	l := slices.Clone(finals)
	c.Shuffle(len(l), func(i, j int) { l[i], l[j] = l[j], l[i] })
	l = l[:c.Intn(5)]
	if c.amiss() {
		l = append(l, one(c, finals, noFinals))
	}
	return l
}

// composite is a value of a kind of this layer, in any of the forms that say the same.
func (c chance) composite(kind int) api.Value {
	fields, _ := shape.Fields(kind)
	l := make([]api.Value, len(fields))
	for i, f := range fields {
		l[i] = c.field(f)
	}
	for len(l) > 0 && l[len(l)-1].Kind == api.Null && c.so() {
		l = l[:len(l)-1]
	}
	if c.amiss() {
		l = append(l, api.Value{})[:c.Intn(len(l)+2)]
	}
	if c.so() {
		return byName(kind, l...)
	}
	return composite(kind, l...)
}

func (c chance) field(f api.Field) api.Value {
	switch {
	case c.amiss() && c.so():
		return c.pick(simple)
	case !f.Must && c.Intn(3) == 0:
		return api.Value{}
	case f.Type == api.Composite:
		return c.composite(one(c, f.Kinds, append(stateKinds, api.KFault)))
	case f.Type == api.Symbols:
		return c.symbols(f.Name)
	case f.Type == api.Map:
		return c.pairs()
	}
	return c.pick(c.wires(f.Name, f.Type))
}

func (c chance) pick(l []api.Value) api.Value { return l[c.Intn(len(l))] }

func (c chance) symbols(name string) api.Value {
	l := some(c, goodCaps, badCaps[:1])
	if name == "outcomes" {
		l = c.finals()
	}
	if len(l) == 1 && c.so() {
		return sample.Text(api.Symbol, l[0])
	}
	v := symbolsOf(l)
	v.Kind, v.Elem = api.Array, api.Symbol
	return v
}

// wires are what may stand in a field that has no parts, or now and then what may not.
func (c chance) wires(name string, kind int) []api.Value {
	var texts []string
	nums := []uint64{0, 1}
	switch name {
	case "cond":
		texts = []string{one(c, goodConds, badConds[:6])}
	case "text", "address", "filter":
		texts = []string{one(c, goodTexts, []string{long(4097), long(5000)})}
	case "txn":
		texts = []string{one(c, goodTxns, badTxns)}
	case "expiry":
		texts = []string{one(c, lives, []string{"", "soon"})}
	case "mode":
		texts = []string{one(c, []string{"move", "copy"}, []string{"", "browse"})}
	case "durable":
		nums = []uint64{one(c, []uint64{0, 1, 2}, []uint64{3, api.MaxWord})}
	case "section", "timeout":
		nums = []uint64{0, 1, api.MaxWord}
	case "offset":
		nums = []uint64{one(c, []uint64{0, 1, math.MaxInt64}, []uint64{1 << 63, math.MaxUint64})}
	}
	var l []api.Value
	for _, s := range texts {
		l = append(l, sample.Text(kind, s))
	}
	if texts == nil {
		for _, n := range nums {
			l = append(l, sample.Num(kind, n))
		}
	}
	return l
}

// P8.1 to P8.4: faults, states, termini and values, as they may be and with faults, against the second program.
func TestChances(t *testing.T) {
	for _, wrong := range []int{0, 40, 10, 3} {
		c := chances(int64(80+wrong), wrong)
		kinds := append(append([]int{api.KFault}, stateKinds...), terminusKinds...)
		good := [4]int{}
		count := func(what int, e api.Errno) {
			if e == api.OK {
				good[what]++
			}
		}
		for range 2000 {
			count(0, wantFaultAsModel(t, c.fault()))
			count(1, wantStateAsModel(t, c.state(one(c, stateKinds, []int{0, 1, api.KSource}))))
			count(2, wantTerminusAsModel(t, c.terminus(one(c, terminusKinds, []int{0, 1, api.KAccepted}))))
			v := c.composite(kinds[c.Intn(len(kinds))])
			wantReadsAsModel(t, v)
			_, _, e := shape.Unpack(v)
			count(3, e)
			if t.Failed() {
				return
			}
		}
		for what, n := range good {
			if wrong == 0 && n != 2000 || n < 50 {
				t.Errorf("of 2000 that were made with one fault in %d, %d are good (%d)", wrong, n, what)
			}
		}
	}
}

// P8.4: values of all kinds, and such as may not be, against the second program.
func TestReadsOfAnything(t *testing.T) {
	l := append(sample.Edges(), sample.List(), sample.Pairs(), sample.Array(api.Symbol), sample.Num(-1, 0), sample.Num(25, 0), sample.Num(api.Null, 1), sample.Text(api.Symbol, "\xff"), sample.Described(), sample.Described(a), sample.Within(33, a))
	for kind := range 256 {
		v := sample.Described(sample.Num(api.Ulong, uint64(kind)), sample.Pairs())
		l = append(l, composite(kind), composite(kind, api.Value{}), composite(kind, a), composite(kind, sample.Text(api.Binary, "t")), composite(kind, sample.Num(api.Uint, 1), sample.Num(api.Ulong, 1)), v)
	}
	for _, v := range l {
		wantReadsAsModel(t, v)
	}
}

// P8.6: what Pack makes Read reads as the same one.
func TestReadOfPack(t *testing.T) {
	c := chances(85, 0)
	for range 2000 {
		f := c.fault()
		v, e := terms.PackFault(f)
		if e != api.OK {
			t.Fatalf("PackFault(%s): %d", told(f), e)
		}
		wantReadFault(t, v, f, api.OK)
		s := c.state(stateKinds[c.Intn(len(stateKinds))])
		if v, e = terms.PackState(s); e != api.OK {
			t.Fatalf("PackState(%s): %d", told(s), e)
		}
		wantReadState(t, v, s, api.OK)
		if back, _ := terms.ReadState(v); !terms.Same(back, s) {
			t.Errorf("%s, packed and read, is not Same", told(s))
		}
		x := c.terminus(terminusKinds[c.Intn(len(terminusKinds))])
		if v, e = terms.PackTerminus(x); e != api.OK {
			t.Fatalf("PackTerminus(%s): %d", told(x), e)
		}
		wantReadTerminus(t, v, x, api.OK)
		if t.Failed() {
			return
		}
	}
	wantReadTerminus(t, api.Value{}, api.Terminus{}, api.OK)
}

// P8.6: what Read reads Pack takes; what it makes Read reads as the same again, and Pack makes the same value of that.
func TestPackOfRead(t *testing.T) {
	c := chances(86, 0)
	for range 2000 {
		v := c.composite(api.KFault)
		f, e := terms.ReadFault(v)
		packed, packE := terms.PackFault(f)
		wantTaken(t, v, e, packE)
		wantReadFault(t, packed, f, api.OK)
		wantPackFault(t, f, packed, api.OK)

		v = c.composite(stateKinds[c.Intn(len(stateKinds))])
		s, e := terms.ReadState(v)
		packed, packE = terms.PackState(s)
		wantTaken(t, v, e, packE)
		wantReadState(t, packed, s, api.OK)
		wantPackState(t, s, packed, api.OK)

		v = c.composite(terminusKinds[c.Intn(len(terminusKinds))])
		x, e := terms.ReadTerminus(v)
		packed, packE = terms.PackTerminus(x)
		wantTaken(t, v, e, packE)
		wantReadTerminus(t, packed, x, api.OK)
		wantPackTerminus(t, x, packed, api.OK)
		if t.Failed() {
			return
		}
	}
}

func wantTaken(t *testing.T, v api.Value, read, packed api.Errno) {
	t.Helper()
	if read != api.OK || packed != api.OK {
		t.Errorf("%s read: %d; that packed: %d", told(v), read, packed)
	}
}

// P8.6: also where the value is as deep as may be.
func TestDeepBack(t *testing.T) {
	for _, inner := range []api.Value{composite(api.KModified, api.Value{}, api.Value{}, nested(28)), composite(api.KRejected, faultValue("x", api.Value{}, nested(26)))} {
		for _, v := range []api.Value{composite(api.KTransactional, sample.Text(api.Binary, "t"), inner), byName(api.KTransactional, sample.Text(api.Binary, "t"), inner)} {
			wantDepth(t, v, 32)
			s, e := terms.ReadState(v)
			packed, packE := terms.PackState(s)
			wantTaken(t, v, e, packE)
			wantReadState(t, packed, s, api.OK)
		}
		v := at(api.KSource, defaultAt, inner)
		wantDepth(t, v, 32)
		x, e := terms.ReadTerminus(v)
		packed, packE := terms.PackTerminus(x)
		wantTaken(t, v, e, packE)
		wantReadTerminus(t, packed, x, api.OK)
	}
}

func wantDepth(t *testing.T, v api.Value, want int) {
	t.Helper()
	if depth(v) != want {
		t.Errorf("a value that is %d deep, want %d", depth(v), want)
	}
}
