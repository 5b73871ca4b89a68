package shape_test

import (
	"testing"

	"longshore/api"
	"longshore/sample"
	"longshore/shape"
)

// P7.3, P7.4: what each field of each composite takes, and what it answers to anything else, first and behind others.
func TestPackOfEachField(t *testing.T) {
	l := anything()
	for _, kind := range composites() {
		lean, full := lean(kind), full(kind)
		for i := range fields[kind] {
			for _, v := range l {
				wantRecordAsModel(t, record(kind, with(lean, i, v)...))
				wantRecordAsModel(t, record(kind, with(full, i, v)...))
				if t.Failed() {
					return
				}
			}
		}
	}
}

// P7.3: numbers that are no composite's are refused, whatever the fields.
func TestCheckOfNoComposite(t *testing.T) {
	for _, kind := range numbers() {
		if _, is := fields[kind]; !is {
			wantPackError(t, record(kind), api.ErrComposite)
			wantPackError(t, record(kind, sample.Num(api.Ubyte, 256)), api.ErrComposite)
		}
	}
	wantPackError(t, api.Record{}, api.ErrComposite)
}

// P7.3: a record has just as many values as its kind has fields.
func TestCheckOfCounts(t *testing.T) {
	for _, kind := range composites() {
		most := len(fields[kind])
		for n := range most + 4 {
			l := append(full(kind), sample.Many(4, api.Value{})...)[:n]
			if n == most {
				wantPack(t, record(kind, l...), modelMake(record(kind, l...)))
				continue
			}
			wantPackError(t, record(kind, l...), api.ErrFields)
			wantPackError(t, record(kind, sample.Many(n, sample.Num(api.Ubyte, 256))...), api.ErrFields)
		}
	}
}

// P7.3: which error comes first.
func TestOrderOfCheckErrors(t *testing.T) {
	one, bad, extra := sample.Num(api.Uint, 1), sample.Num(api.Uint, 1<<32), sample.Num(api.Null, 1)
	c := sample.Text(api.Symbol, "c")
	for _, c := range []struct {
		r api.Record
		e api.Errno
	}{
		{record(api.KDetach, extra, api.Value{}, api.Value{}), api.ErrMust}, {record(api.KDetach, api.Value{}, bad, bad), api.ErrMust},
		{record(api.KDetach, bad, api.Value{}, one), api.ErrNum}, {record(api.KDetach, one, bad, one), api.ErrNum}, {record(api.KDetach, one, one, bad), api.ErrField}, {record(api.KDetach, one, extra, one), api.ErrExtra},
		{record(api.KDetach, sample.Num(api.Ubyte, 256), api.Value{}, api.Value{}), api.ErrNum}, {record(api.KDetach, sample.Num(77, 0), api.Value{}, api.Value{}), api.ErrKind},
		{record(api.KDetach, one, api.Value{}, one), api.ErrField}, {record(api.KDetach, one, api.Value{}, extra), api.ErrExtra},
		{record(api.KDetach, one, api.Value{}, composite(api.KFault, bad, api.Value{}, api.Value{}, api.Value{})), api.ErrNum}, {record(api.KDetach, one, api.Value{}, composite(api.KAccepted, bad)), api.ErrNum}, {record(api.KDetach, one, api.Value{}, composite(api.KAccepted, one)), api.ErrField},
		{record(api.KDetach, one, api.Value{}, composite(api.KFault)), api.ErrMust}, {record(api.KDetach, one, api.Value{}, composite(api.KFault, one)), api.ErrField}, {record(api.KDetach, one, api.Value{}, composite(api.KFault, c, api.Value{}, api.Value{}, api.Value{})), api.ErrFields}, {record(api.KDetach, one, api.Value{}, sample.Described(sample.Num(api.Ulong, api.KFault), sample.Pairs())), api.ErrComposite}, {record(api.KDetach, one, api.Value{}, sample.Described(sample.Num(api.Ulong, api.KFault))), api.ErrParts},
		{record(api.KBegin, one, bad, bad, bad, bad, bad), api.ErrField}, {record(api.KBegin, api.Value{}, one, api.Value{}, bad, bad, bad), api.ErrMust}, {record(api.KBegin, api.Value{}, one, one, one, one, one), api.ErrField}, {record(api.KReceived, one, one), api.ErrField},
		{record(api.KDisposition, sample.Num(api.Bool, 1), one, one, api.Value{}, composite(api.KFault, c), bad), api.ErrField}, {record(api.KDisposition, sample.Num(api.Bool, 1), one, one, api.Value{}, composite(api.KReceived), bad), api.ErrMust},
	} {
		wantPackError(t, c.r, c.e)
	}
}

// P7.3: in a record a lone Symbol is no Array of Symbols.
func TestCheckOfSymbols(t *testing.T) {
	for _, s := range []string{`symbol "a"`, `symbol ""`, `array string []`, `[symbol "a"]`, `"a"`, `array array []`} {
		wantPackError(t, record(api.KCoordinator, parse(s)), api.ErrField)
		wantPackError(t, record(api.KMechanisms, parse(s)), api.ErrField)
	}
	for _, s := range []string{`array symbol []`, `array symbol [symbol "a"]`, `array symbol [symbol "a" symbol "a"]`} {
		wantPack(t, record(api.KCoordinator, parse(s)), composite(api.KCoordinator, parse(s)))
		wantPack(t, record(api.KMechanisms, parse(s)), composite(api.KMechanisms, parse(s)))
	}
	wantPackError(t, record(api.KMechanisms, api.Value{}), api.ErrMust)
	wantPack(t, record(api.KCoordinator, api.Value{}), composite(api.KCoordinator))
}

// deepRecords are records with a field in which a value may nest; so deep does the rest of the packed value lie above it.
func deepRecords(v api.Value) map[int][]api.Record {
	null, one, cond := api.Value{}, sample.Num(api.Uint, 1), sample.Text(api.Symbol, "c")
	fault := composite(api.KFault, cond, null, v)
	rejected := byName(api.KRejected, fault)
	txn := sample.Text(api.Binary, "t")
	source := composite(api.KSource, append(sample.Many(7, null), rejected, cond)...)
	return map[int][]api.Record{
		2: {record(api.KFault, cond, null, v), record(api.KModified, null, null, v), record(api.KProperties, append([]api.Value{v}, sample.Many(12, null)...)...), record(api.KOpen, sample.Text(api.String, "a"), null, null, null, null, v)},
		4: {record(api.KEnd, fault), record(api.KDetach, one, null, fault), record(api.KTransactional, txn, composite(api.KModified, null, null, v))},
		6: {record(api.KTransactional, txn, rejected), record(api.KDisposition, sample.Num(api.Bool, 1), one, null, null, rejected, null)},
		8: {record(api.KDisposition, sample.Num(api.Bool, 1), one, null, null, composite(api.KTransactional, txn, rejected), null), record(api.KAttach, with(with(lean(api.KAttach), 5, source), 11, nested(4))...)},
	}
}

// P7.3: a record whose Pack is just MaxDepth deep, and one deeper.
func TestDepths(t *testing.T) {
	for deep := 18; deep <= 36; deep++ {
		for above, l := range deepRecords(nested(deep)) {
			for _, r := range l {
				wantRecordAsModel(t, r)
				want := api.OK
				if above+deep > 32 {
					want = api.ErrDeep
				}
				if e := shape.Check(r); e != want {
					t.Errorf("Check of a record with a value %d deep below %d: %d", deep, above, e)
				}
			}
		}
	}
}

// P7.3: that the whole is too deep comes last, behind each field's own error; that a value by itself is too deep comes in its turn.
func TestDepthsComeLast(t *testing.T) {
	null, wrong := api.Value{}, sample.Num(api.Char, 1)
	for deep, want := range map[int]api.Errno{30: api.ErrField, 31: api.ErrField, 32: api.ErrField, 33: api.ErrDeep} {
		wantPackError(t, record(api.KProperties, append(append([]api.Value{nested(deep)}, sample.Many(11, null)...), wrong)...), want)
		wantPackError(t, record(api.KProperties, append([]api.Value{null, wrong, null, null, null, nested(deep)}, sample.Many(7, null)...)...), api.ErrField)
	}
	for deep, want := range map[int]api.Errno{28: api.ErrMust, 30: api.ErrMust, 31: api.ErrDeep} {
		fault := composite(api.KFault, null, null, nested(deep))
		wantPackError(t, record(api.KEnd, fault), want)
	}
}

// P7.4: of the packed list no Null stands at the end, and Null stands where a Default was written out.
func TestPackOfDefaults(t *testing.T) {
	for _, c := range []struct {
		kind       int
		said, want string
	}{
		{api.KHeader, `null null null null null`, ``}, {api.KHeader, `false ubyte 4 null false uint 0`, ``}, {api.KHeader, `null null uint 3 null null`, `null null uint 3`}, {api.KHeader, `false ubyte 4 uint 3 false uint 0`, `null null uint 3`}, {api.KHeader, `false ubyte 0 null true uint 0`, `null ubyte 0 null true`}, {api.KHeader, `false ubyte 5 null null uint 1`, `null ubyte 5 null null uint 1`},
		{api.KOpen, `"" "" uint 4294967295 ushort 65535 uint 0 {}`, `"" "" null null uint 0 {}`}, {api.KOpen, `"a" null uint 4294967294 ushort 65535 null null`, `"a" null uint 4294967294`}, {api.KOpen, `"a" null null ushort 0 null null`, `"a" null null ushort 0`},
		{api.KTarget, `null uint 0 symbol "session-end" uint 0 false null`, ``}, {api.KTarget, `"" uint 0 symbol "never" uint 0 false null`, `"" null symbol "never"`}, {api.KTarget, `null null symbol "" null null array symbol []`, `null null symbol "" null null array symbol []`},
		{api.KModified, `false false null`, `false false`}, {api.KModified, `false null {}`, `false null {}`}, {api.KModified, `null null null`, ``},
		{api.KBegin, `null uint 0 uint 0 uint 0 uint 4294967295 null`, `null uint 0 uint 0 uint 0`}, {api.KAttach, `"" uint 0 false ubyte 2 ubyte 0 null null null false null null null`, `"" uint 0 false`}, {api.KAttach, `"" uint 0 false ubyte 0 ubyte 2 null null null true uint 0 ulong 0 null`, `"" uint 0 false ubyte 0 ubyte 2 null null null true uint 0 ulong 0`},
		{api.KAccepted, ``, ``}, {api.KDeclare, ``, ``}, {api.KDischarge, `binary "" false`, `binary ""`}, {api.KDischarge, `binary "" true`, `binary "" true`}, {api.KEnd, `null`, ``},
	} {
		wantPack(t, record(c.kind, parts(c.said)...), composite(c.kind, parts(c.want)...))
	}
}

// P7.4: a Composite in a record is packed again, and all else is as it stands there.
func TestPackOfComposites(t *testing.T) {
	for _, c := range []struct {
		kind       int
		said, want string
	}{
		{api.KEnd, `(symbol "longshore:fault:list" [symbol "c" null null])`, `(ulong 29 [symbol "c"])`}, {api.KRejected, `(ulong 29 [symbol "c" ""])`, `(ulong 29 [symbol "c" ""])`},
		{api.KTransactional, `binary "t" (symbol "longshore:rejected:list" [(symbol "longshore:fault:list" [symbol "c" null])])`, `binary "t" (ulong 37 [(ulong 29 [symbol "c"])])`},
		{api.KTransactional, `binary "t" (symbol "longshore:accepted:list" [])`, `binary "t" (ulong 36 [])`},
		{api.KAttach, `"n" uint 1 true null null (ulong 40 [null null null null null null null null symbol "a" symbol "b"]) (symbol "longshore:target:list" ["q" uint 0 symbol "session-end" uint 0 false]) {} false null null {}`, `"n" uint 1 true null null (ulong 40 [null null null null null null null null array symbol [symbol "a"] array symbol [symbol "b"]]) (ulong 41 ["q"]) {} null null null {}`},
		{api.KProperties, `(symbol "longshore:fault:list" [symbol "c" null null]) null null null null (ulong 29 []) null null null null null null null`, `(symbol "longshore:fault:list" [symbol "c" null null]) null null null null (ulong 29 [])`},
		{api.KModified, `null null {null: (symbol "longshore:end:list" [null])}`, `null null {null: (symbol "longshore:end:list" [null])}`},
	} {
		wantPack(t, record(c.kind, parts(c.said)...), composite(c.kind, parts(c.want)...))
	}
}
