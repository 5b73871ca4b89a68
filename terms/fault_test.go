package terms_test

import (
	"strings"
	"testing"

	"longshore/api"
	"longshore/sample"
	"longshore/terms"
)

func faultValue(cond string, l ...api.Value) api.Value {
	return composite(api.KFault, append([]api.Value{sample.Text(api.Symbol, cond)}, l...)...)
}

// P8.1: a condition has 1 to 64 bytes, each a letter a to z, a digit, - or :.
func TestConditions(t *testing.T) {
	for _, cond := range goodConds {
		wantPackFault(t, api.Fault{Cond: cond}, faultValue(cond), api.OK)
	}
	for _, cond := range badConds {
		wantPackFault(t, api.Fault{Cond: cond}, api.Value{}, api.ErrTerm)
	}
	for n := range 70 {
		want := api.ErrTerm
		if 1 <= n && n <= 64 {
			want = api.OK
		}
		if _, e := terms.PackFault(api.Fault{Cond: long(n)}); e != want {
			t.Errorf("PackFault of a condition of %d bytes: %d", n, e)
		}
		if _, e := terms.ReadFault(faultValue(long(n))); e != want {
			t.Errorf("ReadFault of a condition of %d bytes: %d", n, e)
		}
	}
}

// P8.1, P8.4: each sign, alone, and ahead of, between and behind others.
func TestSignsOfConditions(t *testing.T) {
	for n := range 256 {
		is := strings.IndexByte("abcdefghijklmnopqrstuvwxyz0123456789-:", byte(n)) >= 0
		sign := string([]byte{byte(n)})
		for _, cond := range []string{sign, "a" + sign, sign + "a", "a" + sign + "a", long(63) + sign} {
			if is {
				wantPackFault(t, api.Fault{Cond: cond}, faultValue(cond), api.OK)
				wantReadFault(t, faultValue(cond), api.Fault{Cond: cond}, api.OK)
				continue
			}
			wantPackFault(t, api.Fault{Cond: cond}, api.Value{}, api.ErrTerm)
			want := api.ErrTerm
			if n >= 0x80 {
				want = api.ErrText
			}
			wantReadFault(t, faultValue(cond), api.Fault{}, want)
		}
	}
}

// P8.1: a text has at most 4096 bytes, and is one; an empty one is Null.
func TestTextsOfFaults(t *testing.T) {
	for _, s := range goodTexts {
		want := faultValue("x")
		if s != "" {
			want = faultValue("x", sample.Text(api.String, s))
		}
		wantPackFault(t, api.Fault{Cond: "x", Text: s}, want, api.OK)
		wantReadFault(t, faultValue("x", sample.Text(api.String, s)), api.Fault{Cond: "x", Text: s}, api.OK)
	}
	for _, s := range badTexts {
		wantPackFault(t, api.Fault{Cond: "x", Text: s}, api.Value{}, api.ErrTerm)
	}
	wantReadFault(t, faultValue("x", sample.Text(api.String, long(4097))), api.Fault{}, api.ErrTerm)
	wantReadFault(t, faultValue("x", sample.Text(api.String, long(4095)+"é")), api.Fault{}, api.ErrTerm)
	wantReadFault(t, faultValue("x", sample.Text(api.String, "\xff")), api.Fault{}, api.ErrText)
}

// P8.1: Info is Null, or a Map that may be.
func TestInfo(t *testing.T) {
	for _, info := range goodMaps {
		want := faultValue("x", api.Value{}, info)
		if info.Kind == api.Null {
			want = faultValue("x")
		}
		wantPackFault(t, api.Fault{Cond: "x", Info: info}, want, api.OK)
		wantReadFault(t, want, api.Fault{Cond: "x", Info: info}, api.OK)
		wantReadFault(t, faultValue("x", api.Value{}, info), api.Fault{Cond: "x", Info: info}, api.OK)
	}
	for _, bad := range badMaps {
		wantPackFault(t, api.Fault{Cond: "x", Info: bad.v}, api.Value{}, bad.e)
	}
}

// P8.1: shape.Pack's error is handed on where a Map that may be stands too deep in the composite.
func TestDeepInfo(t *testing.T) {
	for deep := 28; deep <= 32; deep++ {
		f := api.Fault{Cond: "x", Text: "a", Info: nested(deep)}
		v := faultValue("x", sample.Text(api.String, "a"), nested(deep))
		if deep <= 30 {
			wantPackFault(t, f, v, api.OK)
			wantReadFault(t, v, f, api.OK)
			continue
		}
		wantPackFault(t, f, api.Value{}, api.ErrDeep)
		wantReadFault(t, v, api.Fault{}, api.ErrDeep)
	}
}

// P8.1: the condition is looked at first, then the text, the kind of Info, Info itself, its depth.
func TestOrderOfFaults(t *testing.T) {
	conds, texts := []string{"x", ""}, []string{"a", "\xff", long(4097)}
	infos := []badMap{{api.Value{}, api.OK}, {nested(31), api.ErrDeep}, {sample.Num(25, 0), api.ErrTerm}, {sample.Num(api.Null, 1), api.ErrExtra}, {sample.Pairs(api.Value{}), api.ErrMap}}
	for i, cond := range conds {
		for j, s := range texts {
			for _, info := range infos {
				want := info.e
				if i+j > 0 {
					want = api.ErrTerm
				}
				if _, e := terms.PackFault(api.Fault{Cond: cond, Text: s, Info: info.v}); e != want {
					t.Errorf("PackFault of %q, %.5q, %s: %d, want %d", cond, s, told(info.v), e, want)
				}
			}
		}
	}
}

// P8.4: a fault is read by its kind's number or name, with Nulls or without.
func TestReadFaultInAnyForm(t *testing.T) {
	x, why, info := sample.Text(api.Symbol, "x"), sample.Text(api.String, "why"), nested(2)
	for _, c := range []struct {
		l    []api.Value
		want api.Fault
	}{
		{[]api.Value{x}, api.Fault{Cond: "x"}},
		{[]api.Value{x, {}}, api.Fault{Cond: "x"}},
		{[]api.Value{x, {}, {}}, api.Fault{Cond: "x"}},
		{[]api.Value{x, why}, api.Fault{Cond: "x", Text: "why"}},
		{[]api.Value{x, why, {}}, api.Fault{Cond: "x", Text: "why"}},
		{[]api.Value{x, {}, info}, api.Fault{Cond: "x", Info: info}},
		{[]api.Value{x, sample.Text(api.String, ""), sample.Pairs()}, api.Fault{Cond: "x", Info: sample.Pairs()}},
		{[]api.Value{x, why, info}, api.Fault{Cond: "x", Text: "why", Info: info}},
	} {
		wantReadFault(t, composite(api.KFault, c.l...), c.want, api.OK)
		wantReadFault(t, byName(api.KFault, c.l...), c.want, api.OK)
	}
}

// P8.4: shape.Unpack's errors are handed on, ahead of what this layer asks; of another kind that it takes it is ErrTerm.
func TestReadFaultOfOthers(t *testing.T) {
	for s, want := range map[string]api.Errno{
		`null`: api.ErrComposite, `uint 29`: api.ErrComposite, `[symbol "x"]`: api.ErrComposite, `(uint 29 [symbol "x"])`: api.ErrComposite, `(ulong 29 {})`: api.ErrComposite, `(ulong 30 [])`: api.ErrComposite, `(ulong 119 [])`: api.ErrComposite,
		`(ulong 29 [])`: api.ErrMust, `(ulong 29 [null "a"])`: api.ErrMust, `(ulong 29 ["x"])`: api.ErrField, `(ulong 29 [symbol "" uint 1])`: api.ErrField, `(ulong 29 [symbol "x" symbol "a"])`: api.ErrField, `(ulong 29 [symbol "x" "a" []])`: api.ErrField,
		`(ulong 29 [symbol "x" null null null])`: api.ErrFields, `(ulong 29 [symbol "" null null null])`: api.ErrFields,
		`(ulong 36 [])`: api.ErrTerm, `(ulong 37 [])`: api.ErrTerm, `(ulong 37 [(ulong 29 [symbol "x"])])`: api.ErrTerm, `(ulong 24 [(ulong 29 [symbol "x"])])`: api.ErrTerm, `(ulong 40 [])`: api.ErrTerm, `(ulong 49 [])`: api.ErrTerm, `(ulong 112 [])`: api.ErrTerm,
		`(ulong 35 [])`: api.ErrMust, `(ulong 36 [null])`: api.ErrFields, `(ulong 48 [uint 1])`: api.ErrField,
	} {
		wantReadFault(t, parse(s), api.Fault{}, want)
	}
	wantReadFault(t, sample.Num(api.Null, 1), api.Fault{}, api.ErrExtra)
	wantReadFault(t, faultValue("", sample.Num(api.Bool, 2)), api.Fault{}, api.ErrNum)
	wantReadFault(t, sample.Described(sample.Num(api.Ulong, 29)), api.Fault{}, api.ErrParts)
	wantReadFault(t, faultValue("x", api.Value{}, sample.Pairs(sample.Num(api.Uint, 1))), api.Fault{}, api.ErrMap)
}
