package terms_test

import (
	"strings"

	"longshore/api"
	"longshore/sample"
)

func long(n int) string { return strings.Repeat("x", n) }

// nested is a map that is so deep.
func nested(deep int) api.Value {
	v := sample.Pairs()
	for range deep - 1 {
		v = sample.Pairs(sample.Text(api.Symbol, "in"), v)
	}
	return v
}

// Texts that may and may not stand where a condition, a name of Caps, any other text is asked for.
var (
	goodConds = []string{"x", "not-found", "longshore:x-1", "-", ":", "0", "a", "z", "9", long(64)}
	badConds  = []string{"", "X", "a b", "a_b", "a.b", "a\n", "\na", "aXa", "é", "\xff", "x\xff", "\x00", long(65)}
	goodCaps  = []string{"a", "A b", "\x00", "\x7f", "longshore:accepted:list", long(64)}
	badCaps   = []string{"", "\x80", "é", "\xff", "a\xff", long(65)}
	goodTexts = []string{"", "a", "queue/q", "é\u20ac\U0010ffff", "\x00", long(4096), long(4094) + "é", strings.Repeat("é", 2048)}
	badTexts  = []string{"\xff", "a\xc3", "\xed\xa0\x80", "\xc0\x80", "\xf4\x90\x80\x80", long(4097), long(4095) + "é", long(4096) + "\xff", long(4095) + "\xc3"}
	goodTxns  = []string{"t", "\x00", "\xff", "tx-1", long(32)}
	badTxns   = []string{"", long(33), long(64)}
	finals    = []string{"longshore:accepted:list", "longshore:rejected:list", "longshore:released:list", "longshore:modified:list"}
	noFinals  = []string{"", "accepted", "longshore:received:list", "longshore:declared:list", "longshore:transactional:list", "longshore:fault:list", "longshore:outcome:list", "longshore:accepted:list ", "Longshore:accepted:list", "longshore:accepted:map"}
)

var a = sample.Text(api.Symbol, "a")

// goodMaps are values that may stand where a Map, or Null, is asked for.
var goodMaps = []api.Value{{}, sample.Pairs(), sample.Pairs(a, api.Value{}), sample.Pairs(a, sample.Pairs(a, sample.List(a)), sample.Num(api.Uint, 1), sample.Array(api.Symbol, a)), nested(4), sample.Pairs(sample.Keyed(1024)...)}

// badMap is a value and the error that says so where a Map, or Null, is asked for.
type badMap struct {
	v api.Value
	e api.Errno
}

var badMaps = []badMap{
	{sample.Num(api.Uint, 1), api.ErrTerm}, {sample.Num(api.Bool, 2), api.ErrTerm}, {sample.Num(-1, 0), api.ErrTerm}, {sample.Num(25, 0), api.ErrTerm}, {sample.List(a, a), api.ErrTerm}, {a, api.ErrTerm}, {sample.Described(a, sample.Pairs()), api.ErrTerm}, {sample.Array(api.Map), api.ErrTerm}, {sample.Within(40, a), api.ErrTerm},
	{sample.Num(api.Null, 1), api.ErrExtra}, {sample.Text(api.Null, "a"), api.ErrExtra}, {api.Value{Elem: 1}, api.ErrExtra}, {api.Value{List: []api.Value{{}}}, api.ErrExtra}, {api.Value{Kind: api.Map, Num: 1}, api.ErrExtra}, {api.Value{Kind: api.Map, Text: "a"}, api.ErrExtra},
	{sample.Pairs(a), api.ErrMap}, {sample.Pairs(a, a, a, a), api.ErrMap}, {sample.Pairs(sample.Keyed(1025)...), api.ErrMap}, {sample.Pairs(a, sample.Num(api.Bool, 2)), api.ErrNum}, {sample.Pairs(a, sample.Text(api.String, "\xff")), api.ErrText}, {sample.Pairs(sample.Num(30, 0), a), api.ErrKind},
	{sample.Pairs(a, sample.Array(api.Null)), api.ErrArray}, {sample.Pairs(a, sample.Described(a)), api.ErrParts}, {nested(33), api.ErrDeep}, {sample.Pairs(a, sample.Within(31, a)), api.ErrDeep},
}

// stateKinds are the kinds of states, outcomeKinds those of outcomes.
var (
	stateKinds    = []int{api.KReceived, api.KAccepted, api.KRejected, api.KReleased, api.KModified, api.KDeclared, api.KTransactional}
	outcomeKinds  = []int{api.KAccepted, api.KRejected, api.KReleased, api.KModified}
	terminusKinds = []int{api.KSource, api.KTarget, api.KCoordinator}
)

// lean is a state of a kind with no more than it must have.
func lean(kind int) api.State {
	s := api.State{Kind: kind}
	if kind == api.KDeclared || kind == api.KTransactional {
		s.Txn = "t"
	}
	return s
}

// full is a state of a kind with all that it may have.
func full(kind int) api.State {
	return only(api.State{
		Kind: kind, Section: 1, Offset: 2, Fault: api.Fault{Cond: "x", Text: "why", Info: nested(2)}, Failed: true, Elsewhere: true, Ann: nested(3), Txn: "t1",
		Inner: []api.State{{Kind: api.KModified, Failed: true, Ann: nested(2)}},
	})
}

// only is a state with nothing but what its kind has.
func only(s api.State) api.State {
	k := s.Kind
	if k != api.KReceived {
		s.Section, s.Offset = 0, 0
	}
	if k != api.KRejected {
		s.Fault = api.Fault{}
	}
	if k != api.KModified {
		s.Failed, s.Elsewhere, s.Ann = false, false, api.Value{}
	}
	if k != api.KDeclared && k != api.KTransactional {
		s.Txn = ""
	}
	if k != api.KTransactional {
		s.Inner = nil
	}
	return s
}

// fullTerminus is a terminus of a kind with all that it may have.
func fullTerminus(kind int) api.Terminus {
	return onlyTerminus(api.Terminus{
		Kind: kind, Address: "queue/q", Durable: 2, Expiry: api.ExpNever, Timeout: 7, Dynamic: true, Mode: 1, Filter: "priority > 5",
		Default: full(api.KModified), Outcomes: []string{finals[0], finals[3]}, Caps: []string{"a", "b"},
	})
}

// onlyTerminus is a terminus with nothing but what its kind has.
func onlyTerminus(t api.Terminus) api.Terminus {
	if t.Kind != api.KSource {
		t.Mode, t.Filter, t.Default, t.Outcomes = 0, "", api.State{}, nil
	}
	if t.Kind == api.KCoordinator {
		t = api.Terminus{Kind: t.Kind, Caps: t.Caps}
	}
	return t
}
