package shape_test

import (
	"testing"

	"longshore/api"
	"longshore/sample"
	"longshore/shape"
)

// The chapter's section 'Examples', row by row.

func TestExamplesOfKinds(t *testing.T) {
	for kind, want := range map[int]string{16: "longshore:open:list", 119: "longshore:value:any", 0: ""} {
		wantName(t, kind, want)
	}
	if l, is := shape.Fields(119); len(l) != 0 || is {
		t.Errorf("Fields(119): %v, %v", l, is)
	}
	wantKind(t, parse(`(ulong 16 null)`), 16)
	wantKind(t, parse(`(symbol "longshore:end:list" [])`), 23)
	wantKind(t, parse(`(uint 16 [])`), 0)
	wantKind(t, parse(`[ulong 16]`), 0)
}

func TestExamplesOfDetach(t *testing.T) {
	r := record(api.KDetach, sample.Num(api.Uint, 7), sample.Num(api.Bool, 0), api.Value{})
	for _, s := range []string{`(ulong 22 [uint 7])`, `(symbol "longshore:detach:list" [uint 7 false null])`} {
		wantUnpack(t, parse(s), r)
		got, _, _ := shape.Unpack(parse(s))
		wantPack(t, got, parse(`(ulong 22 [uint 7])`))
	}
	wantUnpackError(t, parse(`(ulong 22 [])`), 0, api.ErrMust)
	wantUnpackError(t, parse(`(ulong 22 [null true])`), 0, api.ErrMust)
	wantUnpackError(t, parse(`(ulong 22 [uint 7 uint 1])`), 1, api.ErrField)
	wantUnpackError(t, parse(`(ulong 22 [uint 7 null null null])`), 3, api.ErrFields)
	wantUnpackError(t, parse(`(ulong 22 {})`), 0, api.ErrComposite)
}

func TestExamplesOfOthers(t *testing.T) {
	wantUnpackError(t, parse(`(ulong 23 [(ulong 29 [])])`), 0, api.ErrMust)
	wantUnpackError(t, parse(`(ulong 23 [(ulong 36 [])])`), 0, api.ErrField)

	r := record(api.KCoordinator, parse(`array symbol [symbol "a"]`))
	wantUnpack(t, parse(`(ulong 48 [symbol "a"])`), r)
	wantPack(t, r, parse(`(ulong 48 [array symbol [symbol "a"]])`))

	wantPack(t, record(api.KHeader, parts(`true ubyte 4 null false uint 0`)...), parse(`(ulong 112 [true])`))
	wantPack(t, record(api.KAccepted), parse(`(ulong 36 [])`))
	wantPackError(t, record(api.KHeader, parts(`true`)...), api.ErrFields)

	wantUnpackError(t, parse(`(ulong 17 [null uint 1 uint 2])`), 3, api.ErrMust)
}

func TestNumbers(t *testing.T) {
	for _, c := range []struct {
		name      string
		got, want int
	}{
		{"MaxDepth", api.MaxDepth, 32}, {"AnyValue", api.AnyValue, 100}, {"Symbols", api.Symbols, 101}, {"Composite", api.Composite, 102},
		{"ErrDeep", int(api.ErrDeep), 26}, {"ErrComposite", int(api.ErrComposite), 70}, {"ErrFields", int(api.ErrFields), 71}, {"ErrMust", int(api.ErrMust), 72}, {"ErrField", int(api.ErrField), 73},
	} {
		if c.got != c.want {
			t.Errorf("%s: %d, want %d", c.name, c.got, c.want)
		}
	}
}
