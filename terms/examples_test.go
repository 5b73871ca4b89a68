package terms_test

import (
	"testing"

	"longshore/api"
	"longshore/terms"
)

// The chapter's section 'Examples', row by row.

func TestExamplesOfFaults(t *testing.T) {
	wantPackFault(t, api.Fault{Cond: "not-found"}, parse(`(ulong 29 [symbol "not-found"])`), api.OK)

	for _, f := range []api.Fault{{}, {Cond: "Not"}, {Cond: "x", Text: "\xff"}, {Cond: "x", Info: parse(`uint 1`)}} {
		wantPackFault(t, f, api.Value{}, api.ErrTerm)
	}

	wantReadFault(t, parse(`(symbol "longshore:fault:list" [symbol "x" "" {}])`), api.Fault{Cond: "x", Info: parse(`{}`)}, api.OK)

	wantReadFault(t, parse(`(ulong 29 [symbol ""])`), api.Fault{}, api.ErrTerm)
	wantReadFault(t, parse(`(ulong 29 [])`), api.Fault{}, api.ErrMust)
	wantReadFault(t, parse(`(ulong 36 [])`), api.Fault{}, api.ErrTerm)
}

func TestExamplesOfStates(t *testing.T) {
	wantPackState(t, api.State{Kind: api.KAccepted}, parse(`(ulong 36 [])`), api.OK)
	wantPackState(t, api.State{Kind: api.KAccepted, Failed: true}, api.Value{}, api.ErrTerm)
	wantPackState(t, api.State{}, api.Value{}, api.ErrTerm)

	wantPackState(t, api.State{Kind: api.KModified, Elsewhere: true}, parse(`(ulong 39 [null true])`), api.OK)
	wantReadState(t, parse(`(ulong 39 [false true])`), api.State{Kind: api.KModified, Elsewhere: true}, api.OK)

	wantPackState(t, api.State{Kind: api.KRejected}, parse(`(ulong 37 [])`), api.OK)
	wantPackState(t, api.State{Kind: api.KRejected, Fault: api.Fault{Text: "a"}}, api.Value{}, api.ErrTerm)

	wantPackState(t, api.State{Kind: api.KTransactional, Txn: "t1", Inner: []api.State{{Kind: api.KAccepted}}}, parse(`(ulong 52 [binary "t1" (ulong 36 [])])`), api.OK)

	wantPackState(t, api.State{Kind: api.KTransactional, Txn: "t1", Inner: []api.State{{Kind: api.KReceived}}}, api.Value{}, api.ErrNested)
	wantPackState(t, api.State{Kind: api.KTransactional}, api.Value{}, api.ErrTerm)

	wantReadState(t, parse(`(ulong 35 [uint 1 ulong 9223372036854775808])`), api.State{}, api.ErrTerm)
}

func TestExamplesOfTermini(t *testing.T) {
	wantPackTerminus(t, api.Terminus{}, api.Value{}, api.OK)
	wantPackTerminus(t, api.Terminus{Kind: api.KTarget, Address: "queue/q", Expiry: api.ExpSession}, parse(`(ulong 41 ["queue/q"])`), api.OK)

	wantPackTerminus(t, api.Terminus{Kind: api.KSource}, parse(`(ulong 40 [null null symbol "link-detach"])`), api.OK)

	wantPackTerminus(t, api.Terminus{Kind: api.KTarget, Mode: 1}, api.Value{}, api.ErrTerm)
	wantPackTerminus(t, api.Terminus{Kind: api.KSource, Address: "\xff"}, api.Value{}, api.ErrAddress)
	wantPackTerminus(t, api.Terminus{Kind: api.KSource, Default: api.State{Kind: api.KReceived}}, api.Value{}, api.ErrNested)

	wantReadTerminus(t, parse(`(ulong 40 [])`), api.Terminus{Kind: api.KSource, Expiry: api.ExpSession}, api.OK)
	wantReadTerminus(t, parse(`(ulong 48 [symbol "a"])`), api.Terminus{Kind: api.KCoordinator, Caps: []string{"a"}}, api.OK)
}

func TestExamplesOfOutcomes(t *testing.T) {
	if !terms.Outcome(api.State{Kind: api.KModified}) || terms.Outcome(api.State{Kind: api.KReceived}) {
		t.Error("Outcome of a modified, of a received state")
	}
	if !terms.Same(api.State{Kind: api.KAccepted}, api.State{Kind: api.KAccepted, Inner: []api.State{}}) {
		t.Error("Same of two accepted states, one with an empty Inner")
	}
}

func TestNumbers(t *testing.T) {
	for _, c := range []struct {
		name      string
		got, want int
	}{
		{"MaxName", api.MaxName, 64}, {"MaxText", api.MaxText, 4096}, {"MaxWord", api.MaxWord, 4294967295}, {"MaxTag", api.MaxTag, 32}, {"MaxDepth", api.MaxDepth, 32},
		{"ExpLink", api.ExpLink, 0}, {"ExpSession", api.ExpSession, 1}, {"ExpConn", api.ExpConn, 2}, {"ExpNever", api.ExpNever, 3},
		{"KFault", api.KFault, 29}, {"KReceived", api.KReceived, 35}, {"KAccepted", api.KAccepted, 36}, {"KRejected", api.KRejected, 37}, {"KReleased", api.KReleased, 38}, {"KModified", api.KModified, 39},
		{"KSource", api.KSource, 40}, {"KTarget", api.KTarget, 41}, {"KCoordinator", api.KCoordinator, 48}, {"KDeclared", api.KDeclared, 51}, {"KTransactional", api.KTransactional, 52},
		{"ErrTerm", int(api.ErrTerm), 80}, {"ErrNested", int(api.ErrNested), 81}, {"ErrAddress", int(api.ErrAddress), 82},
	} {
		if c.got != c.want {
			t.Errorf("%s: %d, want %d", c.name, c.got, c.want)
		}
	}
}
