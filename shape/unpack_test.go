package shape_test

import (
	"testing"

	"longshore/api"
	"longshore/sample"
)

// P7.5: what each field of each composite takes, and what it answers to anything else, first and behind others.
func TestUnpackOfEachField(t *testing.T) {
	l := anything()
	for _, kind := range composites() {
		lean, full := lean(kind), full(kind)
		for i := range fields[kind] {
			for _, v := range l {
				wantAsModel(t, composite(kind, with(lean, i, v)...))
				wantAsModel(t, byName(kind, with(full, i, v)[:i+1]...))
				if t.Failed() {
					return
				}
			}
		}
	}
}

// P7.5: fields that are Null, or not there, are their Defaults, and those that must be there are missed by their number.
func TestUnpackOfShortLists(t *testing.T) {
	for _, kind := range composites() {
		most := len(fields[kind])
		for n := range most + 1 {
			wantAsModel(t, composite(kind, full(kind)[:n]...))
			wantAsModel(t, composite(kind, lean(kind)[:n]...))
			wantAsModel(t, byName(kind, append(full(kind)[:n], sample.Many(most-n, api.Value{})...)...))
		}
		wantAsModel(t, composite(kind, sample.Many(most, api.Value{})...))
	}
	wantUnpack(t, parse(`(ulong 112 [])`), record(api.KHeader, parts(`false ubyte 4 null false uint 0`)...))
	wantUnpack(t, parse(`(ulong 112 [null null null null null])`), record(api.KHeader, parts(`false ubyte 4 null false uint 0`)...))
	wantUnpack(t, parse(`(ulong 41 [])`), record(api.KTarget, parts(`null uint 0 symbol "session-end" uint 0 false null`)...))
	wantUnpack(t, parse(`(ulong 16 ["a"])`), record(api.KOpen, parts(`"a" null uint 4294967295 ushort 65535 null null`)...))
	wantUnpackError(t, parse(`(ulong 35 [uint 1])`), 1, api.ErrMust)
	wantUnpackError(t, parse(`(ulong 35 [uint 1 null])`), 1, api.ErrMust)
	wantUnpackError(t, parse(`(ulong 19 [uint 1 uint 2 uint 3])`), 3, api.ErrMust)
}

// P7.5: one element more than there are fields is too many, also where it is a Null; the number is that of the fields.
func TestUnpackOfLongLists(t *testing.T) {
	for _, kind := range composites() {
		most := len(fields[kind])
		for _, more := range []int{1, 2, 100} {
			for _, v := range []api.Value{{}, sample.Num(api.Uint, 1)} {
				wantUnpackError(t, composite(kind, append(full(kind), sample.Many(more, v)...)...), most, api.ErrFields)
				wantUnpackError(t, byName(kind, append(lean(kind), sample.Many(more, v)...)...), most, api.ErrFields)
			}
		}
		wantUnpackError(t, composite(kind, sample.Many(most+1, api.Value{})...), most, api.ErrFields)
	}
}

// P7.5: what is no composite, or has no List.
func TestUnpackOfOthers(t *testing.T) {
	for _, v := range anything() {
		wantAsModel(t, v)
	}
	for _, kind := range numbers() {
		if _, is := fields[kind]; !is {
			wantUnpackError(t, sample.Described(sample.Num(api.Ulong, uint64(kind)), sample.List()), 0, api.ErrComposite)
		}
	}
	for _, kind := range composites() {
		d := sample.Num(api.Ulong, uint64(kind))
		for _, v := range []api.Value{{}, sample.Pairs(), sample.Array(api.List), sample.Array(api.Uint), sample.Described(d, sample.List()), sample.Text(api.Binary, "")} {
			wantUnpackError(t, sample.Described(d, v), 0, api.ErrComposite)
		}
	}
	for _, s := range []string{`null`, `[]`, `[ulong 36 []]`, `{ulong 36: []}`, `(uint 36 [])`, `("longshore:accepted:list" [])`, `(symbol "longshore:accepted:map" [])`, `(symbol "accepted" [])`, `((ulong 36 []) [])`, `(ulong 117 binary "")`, `(ulong 118 [])`, `(ulong 119 [])`, `(ulong 113 {})`} {
		wantUnpackError(t, parse(s), 0, api.ErrComposite)
	}
}

// P7.5: a value that may not be is refused as value.Check says, ahead of all else, with the number 0.
func TestUnpackOfWhatMayNotBe(t *testing.T) {
	bad := sample.Num(api.Ubyte, 256)
	for _, v := range []api.Value{
		bad, sample.List(bad), sample.Described(sample.Num(api.Ulong, 99), sample.List(bad)), sample.Described(sample.Num(api.Ulong, 22), sample.Pairs(bad, bad)),
		composite(api.KDetach, bad), composite(api.KDetach, api.Value{}, bad), composite(api.KDetach, sample.Num(api.Int, 7), api.Value{}, bad), composite(api.KDetach, sample.Many(4, bad)...),
		composite(api.KEnd, composite(api.KFault, api.Value{}, api.Value{}, sample.Pairs(bad, bad))),
	} {
		wantUnpackError(t, v, 0, api.ErrNum)
	}
	for _, c := range []struct {
		v api.Value
		e api.Errno
	}{
		{sample.Num(30, 0), api.ErrKind}, {composite(api.KHeader, sample.Num(api.Null, 1)), api.ErrExtra}, {composite(api.KInit, sample.Text(api.Symbol, "\xff")), api.ErrText}, {composite(api.KOpen, sample.Text(api.String, "\xff")), api.ErrText},
		{composite(api.KFault, api.Value{}, api.Value{}, sample.Pairs(bad)), api.ErrMap}, {composite(api.KCoordinator, sample.Array(api.Symbol, bad)), api.ErrArray},
		{sample.Described(sample.Num(api.Ulong, 36)), api.ErrParts}, {sample.Described(sample.Num(api.Ulong, 36), sample.List(), sample.List()), api.ErrParts},
		{composite(api.KProperties, sample.Within(30, sample.List())), api.ErrDeep}, {sample.Within(33, api.Value{}), api.ErrDeep},
		{api.Value{Kind: api.Described, Num: 1, List: composite(api.KAccepted).List}, api.ErrExtra},
	} {
		wantUnpackError(t, c.v, 0, c.e)
	}
	deepest := sample.Within(29, sample.List())
	wantUnpack(t, composite(api.KProperties, deepest), record(api.KProperties, append([]api.Value{deepest}, sample.Many(12, api.Value{})...)...))
}

// P7.5: which error comes first, and the field's number beside it.
func TestOrderOfUnpackErrors(t *testing.T) {
	for _, c := range []struct {
		s  string
		at int
		e  api.Errno
	}{
		{`(ulong 99 [null null])`, 0, api.ErrComposite}, {`(ulong 22 {null: null})`, 0, api.ErrComposite},
		{`(ulong 22 [null null null null])`, 3, api.ErrFields}, {`(ulong 22 [int 1 null null uint 1])`, 3, api.ErrFields},
		{`(ulong 22 [null uint 1])`, 0, api.ErrMust}, {`(ulong 22 [int 1 uint 1])`, 0, api.ErrField}, {`(ulong 22 [uint 1 uint 1 uint 1])`, 1, api.ErrField}, {`(ulong 22 [uint 1 true uint 1])`, 2, api.ErrField},
		{`(ulong 17 [uint 1])`, 0, api.ErrField}, {`(ulong 17 [ushort 1 null int 1])`, 1, api.ErrMust}, {`(ulong 17 [ushort 1 uint 1 int 1])`, 2, api.ErrField}, {`(ulong 17 [ushort 1 int 1])`, 1, api.ErrField},
		{`(ulong 22 [uint 1 true (ulong 29 [])])`, 2, api.ErrMust}, {`(ulong 22 [uint 1 true (ulong 29 [int 1])])`, 2, api.ErrField}, {`(ulong 22 [uint 1 true (ulong 29 [symbol "a" null null null])])`, 2, api.ErrFields}, {`(ulong 22 [uint 1 true (ulong 29 {})])`, 2, api.ErrComposite}, {`(ulong 22 [uint 1 true (ulong 36 {})])`, 2, api.ErrField},
		{`(ulong 20 [uint 1 null null null null null (ulong 52 [binary "a" (ulong 37 [(ulong 29 [symbol "c" uint 1])])]) uint 1])`, 6, api.ErrField},
		{`(ulong 20 [uint 1 null null null null null (ulong 52 [binary "a" (ulong 37 [(ulong 29 [null uint 1])])]) uint 1])`, 6, api.ErrMust},
		{`(ulong 20 [uint 1 null null null null null (ulong 52 [binary "a" (ulong 35 [])])])`, 6, api.ErrField}, {`(ulong 20 [uint 1 null null null null null (ulong 52 [])])`, 6, api.ErrMust}, {`(ulong 20 [uint 1 null null null null null (ulong 29 [])])`, 6, api.ErrField},
		{`(ulong 18 ["a" uint 1 true null null (ulong 41 [])])`, 5, api.ErrField}, {`(ulong 18 ["a" uint 1 true null null null (ulong 40 [])])`, 6, api.ErrField},
		{`(ulong 18 ["a" uint 1 true null null (ulong 40 [null null null null null null null (ulong 38 [null])])])`, 5, api.ErrFields}, {`(ulong 18 ["a" uint 1 true null null (ulong 40 [null null null null null null null (ulong 35 [])])])`, 5, api.ErrField},
	} {
		wantUnpackError(t, parse(c.s), c.at, c.e)
	}
}

// P7.5: a lone Symbol of a field of Symbols is the Array of it; an Array, an empty one too, stays.
func TestUnpackOfSymbols(t *testing.T) {
	for _, c := range []struct{ s, want string }{
		{`symbol "a"`, `array symbol [symbol "a"]`}, {`symbol ""`, `array symbol [symbol ""]`}, {`array symbol []`, `array symbol []`}, {`array symbol [symbol "a"]`, `array symbol [symbol "a"]`}, {`array symbol [symbol "a" symbol "b"]`, `array symbol [symbol "a" symbol "b"]`},
	} {
		wantUnpack(t, parse(`(ulong 48 [`+c.s+`])`), record(api.KCoordinator, parse(c.want)))
		wantUnpack(t, parse(`(ulong 64 [`+c.s+`])`), record(api.KMechanisms, parse(c.want)))
	}
	for _, s := range []string{`array string []`, `"a"`, `[symbol "a"]`, `array array [array symbol []]`, `binary "a"`, `uint 1`} {
		wantUnpackError(t, parse(`(ulong 48 [`+s+`])`), 0, api.ErrField)
		wantUnpackError(t, parse(`(ulong 64 [`+s+`])`), 0, api.ErrField)
	}
	wantUnpackError(t, parse(`(ulong 64 [])`), 0, api.ErrMust)
	wantUnpack(t, parse(`(ulong 48 [])`), record(api.KCoordinator, api.Value{}))
	wantUnpackError(t, parse(`(ulong 29 [array symbol [symbol "a"]])`), 0, api.ErrField)
}

// P7.5: a Composite within a Composite is what Pack makes of it; all else is as it stands there.
func TestUnpackOfComposites(t *testing.T) {
	wantUnpack(t, parse(`(ulong 23 [(symbol "longshore:fault:list" [symbol "a" null null])])`), record(api.KEnd, parse(`(ulong 29 [symbol "a"])`)))
	wantUnpack(t, parse(`(ulong 18 ["n" uint 1 true null null (symbol "longshore:source:list" [null uint 0 symbol "session-end" uint 0 false null null (symbol "longshore:rejected:list" [null]) symbol "o"]) (symbol "longshore:coordinator:list" [symbol "c"])])`),
		record(api.KAttach, parts(`"n" uint 1 true ubyte 2 ubyte 0 (ulong 40 [null null null null null null null (ulong 37 []) array symbol [symbol "o"]]) (ulong 48 [array symbol [symbol "c"]]) null false null null null`)...))
	wantUnpack(t, parse(`(ulong 21 [true uint 1 null null (symbol "longshore:transactional:list" [binary "t" (symbol "longshore:modified:list" [false null null])])])`),
		record(api.KDisposition, parts(`true uint 1 null false (ulong 52 [binary "t" (ulong 39 [false])]) false`)...))
	as := parse(`(symbol "longshore:end:list" [null])`)
	wantUnpack(t, composite(api.KProperties, as), record(api.KProperties, append([]api.Value{as}, sample.Many(12, api.Value{})...)...))
	in := sample.Pairs(as, as)
	wantUnpack(t, composite(api.KFault, sample.Text(api.Symbol, "a"), api.Value{}, in), record(api.KFault, sample.Text(api.Symbol, "a"), api.Value{}, in))
}
