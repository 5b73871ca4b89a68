package shape_test

import (
	"math"
	"slices"
	"testing"

	"longshore/api"
	"longshore/sample"
	"longshore/shape"
)

func wantName(t *testing.T, kind int, want string) {
	t.Helper()
	if got := shape.Name(kind); got != want {
		t.Errorf("Name(%d): %q, want %q", kind, got, want)
	}
}

// wantKind wants a kind, or 0 for none.
func wantKind(t *testing.T, v api.Value, want int) {
	t.Helper()
	if kind, is := shape.Kind(v); kind != want || is != (want != 0) {
		t.Errorf("Kind(%s): %d, %v, want %d", sample.Written(v), kind, is, want)
	}
}

// numbers are those of all kinds, all near them, and extreme ones.
func numbers() []int {
	l := []int{math.MinInt, math.MinInt + 1, math.MinInt32, -256, math.MaxInt32, math.MaxInt - 1, math.MaxInt, 1<<32 + 16, 1<<16 + 16}
	for n := -200; n < 600; n++ {
		l = append(l, n)
	}
	return l
}

// P7.1: every kind's name, and none of a number that is no kind's.
func TestNames(t *testing.T) {
	if len(names) != 36 || len(fields) != 29 {
		t.Fatalf("the chapter has 36 kinds and 29 composites, here are %d and %d", len(names), len(fields))
	}
	for _, n := range numbers() {
		wantName(t, n, names[n])
	}
}

// P7.1: api's constants are the numbers of the names that the chapter gives them.
func TestNamesOfConstants(t *testing.T) {
	for kind, word := range map[int]string{
		api.KOpen: "open:list", api.KBegin: "begin:list", api.KAttach: "attach:list", api.KFlow: "flow:list", api.KTransfer: "transfer:list", api.KDisposition: "disposition:list", api.KDetach: "detach:list", api.KEnd: "end:list", api.KClose: "close:list",
		api.KFault: "fault:list", api.KReceived: "received:list", api.KAccepted: "accepted:list", api.KRejected: "rejected:list", api.KReleased: "released:list", api.KModified: "modified:list", api.KSource: "source:list", api.KTarget: "target:list",
		api.KCoordinator: "coordinator:list", api.KDeclare: "declare:list", api.KDischarge: "discharge:list", api.KDeclared: "declared:list", api.KTransactional: "transactional:list",
		api.KMechanisms: "mechanisms:list", api.KInit: "init:list", api.KChallenge: "challenge:list", api.KResponse: "response:list", api.KOutcome: "outcome:list",
		api.KHeader: "header:list", api.KDeliveryAnn: "delivery-annotations:map", api.KMessageAnn: "message-annotations:map", api.KProperties: "properties:list", api.KApplication: "application-properties:map",
		api.KData: "data:binary", api.KSequence: "sequence:list", api.KBody: "value:any", api.KFooter: "footer:map",
	} {
		wantName(t, kind, "longshore:"+word)
	}
}

// P7.1: every composite's row of fields, as the chapter's list has it; none and false of any other number, also of kinds that are no composites.
func TestFields(t *testing.T) {
	for _, n := range numbers() {
		want, composite := fields[n]
		l, is := shape.Fields(n)
		if is != composite || len(l) != len(want) {
			t.Errorf("Fields(%d): %v, %v", n, l, is)
			continue
		}
		for i, f := range l {
			if !sameField(f, want[i]) {
				t.Errorf("Fields(%d): field %d is %v, want %v", n, i, f, want[i])
			}
		}
	}
}

func sameField(a, b api.Field) bool {
	return a.Name == b.Name && a.Type == b.Type && a.Must == b.Must && slices.Equal(a.Kinds, b.Kinds) && sample.Same(a.Default, b.Default)
}

// P7.2: a descriptor that is a kind's number or its name, of all kinds; whatever stands behind it.
func TestKinds(t *testing.T) {
	behind := []api.Value{{}, sample.Num(api.Ulong, 16), sample.Text(api.Symbol, "longshore:end:list"), sample.List(), sample.Pairs(), sample.Described(), sample.Num(api.Ubyte, 256), sample.Num(99, 0), sample.Within(40, api.Value{})}
	for _, n := range numbers() {
		want := 0
		if names[n] != "" {
			want = n
		}
		for _, v := range behind {
			wantKind(t, sample.Described(sample.Num(api.Ulong, uint64(n)), v), want)
			wantKind(t, sample.Described(sample.Text(api.Symbol, names[n]), v), want)
			if t.Failed() {
				return
			}
		}
	}
}

// P7.2: nothing else of the value is looked at.
func TestKindOfWhatMayNotBe(t *testing.T) {
	v := composite(api.KOpen)
	v.Num, v.Text, v.Elem = 5, "a", -1
	wantKind(t, v, api.KOpen)
}

// P7.2: a descriptor of another type, or one that is not alone, is none.
func TestNoKinds(t *testing.T) {
	for n, name := range names {
		for kind := api.Null; kind <= api.Described+1; kind++ {
			want := 0
			if kind == api.Ulong {
				want = n
			}
			wantKind(t, sample.Described(sample.Num(kind, uint64(n)), sample.List()), want)
			want = 0
			if kind == api.Symbol {
				want = n
			}
			wantKind(t, sample.Described(sample.Text(kind, name), sample.List()), want)
		}
		for _, d := range []api.Value{sample.Num(api.Ulong, uint64(n)), sample.Text(api.Symbol, name)} {
			wantKind(t, d, 0)
			wantKind(t, sample.Described(), 0)
			wantKind(t, sample.Described(d), 0)
			wantKind(t, sample.Described(d, sample.List(), sample.List()), 0)
			wantKind(t, sample.Described(sample.List(), d), 0)
			wantKind(t, sample.List(d, sample.List()), 0)
			wantKind(t, sample.Pairs(d, sample.List()), 0)
			wantKind(t, api.Value{Kind: api.Described + 1, List: []api.Value{d, sample.List()}}, 0)
			wantKind(t, sample.Described(sample.List(d), sample.List()), 0)
			wantKind(t, sample.Described(sample.Described(d, sample.List()), sample.List()), 0)
		}
	}
}

// P7.2: the descriptor is held against a kind's by value.Equal, so that what it has too much is seen.
func TestDescriptorsWithMore(t *testing.T) {
	for n, name := range names {
		for _, d := range []api.Value{
			{Kind: api.Ulong, Num: uint64(n), Text: "a"}, {Kind: api.Ulong, Num: uint64(n), Elem: 1}, {Kind: api.Ulong, Num: uint64(n), List: []api.Value{{}}}, {Kind: api.Ulong, Num: uint64(n), Text: name}, {Kind: api.Ulong, Text: name},
			{Kind: api.Symbol, Text: name, Num: 1}, {Kind: api.Symbol, Text: name, Elem: 1}, {Kind: api.Symbol, Text: name, List: []api.Value{{}}}, {Kind: api.Symbol, Num: uint64(n)}, {Kind: api.Symbol, Text: name, Num: uint64(n)},
			{Kind: api.Symbol, Text: name + " "}, {Kind: api.Symbol, Text: name[:len(name)-1]}, {Kind: api.Symbol, Text: " " + name}, {Kind: api.Symbol, Text: name[1:]}, {Kind: api.Ulong, Num: uint64(n) | 1<<63}, {Kind: api.Ulong, Num: uint64(n) | 1<<32}, {Kind: api.Ulong, Num: -uint64(n)},
		} {
			wantKind(t, sample.Described(d, sample.List()), 0)
		}
		wantKind(t, sample.Described(api.Value{Kind: api.Ulong, Num: uint64(n), List: []api.Value{}}, sample.List()), n)
	}
}
