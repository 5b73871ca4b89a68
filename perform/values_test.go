package perform_test

import (
	"math"
	"reflect"
	"slices"
	"strconv"
	"strings"

	"longshore/api"
	"longshore/perform"
	"longshore/sample"
)

func long(n int) string { return strings.Repeat("x", n) }

// nested is a map that is so deep.
func nested(deep int) api.Value {
	v := sample.Pairs()
	for range deep - 1 {
		v = sample.Pairs(sample.Text(api.Symbol, "in"), v)
	}
	return v
}

// kinds are those of performatives.
var kinds = []int{api.KOpen, api.KBegin, api.KAttach, api.KFlow, api.KTransfer, api.KDisposition, api.KDetach, api.KEnd, api.KClose}

// spec is a field of a kind as the chapter's table has it.
type spec struct {
	name, has   string // the field, and the truth that says whether it is there
	kind        int    // of the value that it becomes
	least, most int    // of a number
	blank       int    // of a number
	must        bool   // it is written also where it is as in a blank one
}

const maxWord = 4294967295

var table = map[int][]spec{
	api.KOpen: {
		{name: "Id", kind: api.String, must: true},
		{name: "Host", kind: api.String},
		{name: "MaxFrame", kind: api.Uint, least: 512, most: maxWord, blank: maxWord},
		{name: "ChannelMax", kind: api.Ushort, most: 65535, blank: 65535},
		{name: "Idle", kind: api.Uint, least: -1, most: maxWord, blank: -1},
		{name: "Props", kind: api.Map},
	},
	api.KBegin: {
		{name: "Remote", kind: api.Ushort, least: -1, most: 65535, blank: -1},
		{name: "NextOut", kind: api.Uint, most: maxWord, must: true},
		{name: "InWin", kind: api.Uint, most: maxWord, must: true},
		{name: "OutWin", kind: api.Uint, most: maxWord, must: true},
		{name: "HandleMax", kind: api.Uint, most: maxWord, blank: maxWord},
		{name: "Props", kind: api.Map},
	},
	api.KAttach: {
		{name: "Name", kind: api.String, must: true},
		{name: "Handle", kind: api.Uint, most: maxWord, must: true},
		{name: "Receiver", kind: api.Bool, must: true},
		{name: "SndMode", kind: api.Ubyte, most: 2, blank: 2},
		{name: "RcvMode", kind: api.Ubyte, most: 1},
		{name: "Source", kind: api.Composite},
		{name: "Target", kind: api.Composite},
		{name: "Unsettled", kind: api.Map},
		{name: "Incomplete", kind: api.Bool},
		{name: "InitialCount", kind: api.Uint, least: -1, most: maxWord, blank: -1},
		{name: "MaxMessage", kind: api.Ulong, most: 9223372036854775807},
		{name: "Props", kind: api.Map},
	},
	api.KFlow: {
		{name: "NextIn", kind: api.Uint, least: -1, most: maxWord, blank: -1},
		{name: "InWin", kind: api.Uint, most: maxWord, must: true},
		{name: "NextOut", kind: api.Uint, most: maxWord, must: true},
		{name: "OutWin", kind: api.Uint, most: maxWord, must: true},
		{name: "Handle", kind: api.Uint, least: -1, most: maxWord, blank: -1},
		{name: "Count", kind: api.Uint, least: -1, most: maxWord, blank: -1},
		{name: "Credit", kind: api.Uint, least: -1, most: maxWord, blank: -1},
		{name: "Available", kind: api.Uint, least: -1, most: maxWord, blank: -1},
		{name: "Drain", kind: api.Bool},
		{name: "Echo", kind: api.Bool},
		{name: "Props", kind: api.Map},
	},
	api.KTransfer: {
		{name: "Handle", kind: api.Uint, most: maxWord, must: true},
		{name: "DeliveryId", kind: api.Uint, least: -1, most: maxWord, blank: -1},
		{name: "Tag", has: "HasTag", kind: api.Binary, must: true},
		{name: "Format", kind: api.Uint, least: -1, most: maxWord, blank: -1},
		{name: "Settled", has: "HasSettled", kind: api.Bool, must: true},
		{name: "More", kind: api.Bool},
		{name: "State", kind: api.Composite},
		{name: "Resume", kind: api.Bool},
		{name: "Aborted", kind: api.Bool},
		{name: "Batchable", kind: api.Bool},
	},
	api.KDisposition: {
		{name: "Receiver", kind: api.Bool, must: true},
		{name: "First", kind: api.Uint, most: maxWord, must: true},
		{name: "Last", kind: api.Uint, least: -1, most: maxWord, blank: -1},
		{name: "Settled", kind: api.Bool},
		{name: "State", kind: api.Composite},
		{name: "Batchable", kind: api.Bool},
	},
	api.KDetach: {
		{name: "Handle", kind: api.Uint, most: maxWord, must: true},
		{name: "Closed", kind: api.Bool},
		{name: "Fault", kind: api.Composite},
	},
	api.KEnd:   {{name: "Fault", kind: api.Composite}},
	api.KClose: {{name: "Fault", kind: api.Composite}},
}

// names are those of the fields of api.Perform that a kind has beside its Kind.
func names(kind int) []string {
	var l []string
	for _, s := range table[kind] {
		l = append(l, s.name)
		if s.has != "" {
			l = append(l, s.has)
		}
	}
	return l
}

// with is a performative of which one field is x.
func with(p api.Perform, name string, x any) api.Perform {
	reflect.ValueOf(&p).Elem().FieldByName(name).Set(reflect.ValueOf(x))
	return p
}

// having is a performative that says x in a field.
func having(p api.Perform, s spec, x any) api.Perform {
	if s.has != "" {
		p = with(p, s.has, true)
	}
	return with(p, s.name, x)
}

// blank is a blank performative with some of its fields changed.
func blank(kind int, turn func(p *api.Perform)) api.Perform {
	p := modelBlank(kind)
	turn(&p)
	return p
}

// wrong is what may not stand in a field, and the error that says so.
type wrong struct {
	x any
	e api.Errno
}

var a = sample.Text(api.Symbol, "a")

// Texts, maps, faults, states, termini, deliveries that may stand in a performative, and such as may not.
var (
	goodNames = []any{"", "a", "é\u20ac\U0010ffff", "\x00", long(63), long(64), long(62) + "é"}
	badNames  = []wrong{{long(65), api.ErrLong}, {long(63) + "é", api.ErrLong}, {long(65) + "\xff", api.ErrLong}, {"\xff", api.ErrText}, {"a\xc3", api.ErrText}, {"\xed\xa0\x80", api.ErrText}, {long(63) + "\xc3", api.ErrText}, {long(4096), api.ErrLong}}
	goodTags  = []any{"", "t", "\x00", "\xff\xfe", long(31), long(32), strings.Repeat("\x80", 32)}
	badTags   = []wrong{{long(33), api.ErrLong}, {strings.Repeat("\x80", 33), api.ErrLong}, {long(255), api.ErrLong}}

	goodProps = []any{api.Value{}, sample.Pairs(), sample.Pairs(a, api.Value{}), sample.Pairs(a, sample.Pairs(a, sample.List(a)), sample.Num(api.Uint, 1), sample.Array(api.Symbol, a)), nested(4), nested(30), sample.Pairs(sample.Keyed(1024)...)}
	badProps  = []wrong{
		{sample.List(), api.ErrField}, {a, api.ErrField}, {sample.Num(api.Uint, 1), api.ErrField}, {sample.Array(api.Map), api.ErrField}, {sample.Described(a, sample.Pairs()), api.ErrField}, {sample.Num(api.Bool, 0), api.ErrField},
		{sample.Num(api.Bool, 2), api.ErrNum}, {sample.Num(-1, 0), api.ErrKind}, {sample.Num(25, 0), api.ErrKind}, {sample.Within(33, a), api.ErrDeep}, {sample.Num(api.Null, 1), api.ErrExtra}, {sample.Text(api.Null, "a"), api.ErrExtra}, {api.Value{Elem: 1}, api.ErrExtra}, {api.Value{List: []api.Value{{}}}, api.ErrExtra},
		{sample.Pairs(a), api.ErrMap}, {sample.Pairs(a, a, a, a), api.ErrMap}, {sample.Pairs(sample.Keyed(1025)...), api.ErrMap}, {sample.Pairs(a, sample.Text(api.String, "\xff")), api.ErrText}, {sample.List(sample.Described(a)), api.ErrParts}, {sample.Array(api.Null), api.ErrArray}, {nested(33), api.ErrDeep}, {nested(31), api.ErrDeep}, {nested(32), api.ErrDeep},
	}

	goodFaults = []any{api.Fault{}, api.Fault{Cond: "x"}, fullFault, api.Fault{Cond: long(64), Text: long(4096)}}
	badFaults  = []wrong{{api.Fault{Cond: "X"}, api.ErrTerm}, {api.Fault{Text: "why"}, api.ErrTerm}, {api.Fault{Info: sample.Pairs()}, api.ErrTerm}, {api.Fault{Info: sample.Num(api.Null, 1)}, api.ErrTerm}, {api.Fault{Cond: "x", Text: "\xff"}, api.ErrTerm}, {api.Fault{Cond: "x", Info: a}, api.ErrTerm}, {api.Fault{Cond: "x", Info: sample.Num(api.Null, 1)}, api.ErrExtra}, {api.Fault{Cond: "x", Info: sample.Pairs(a)}, api.ErrMap}, {api.Fault{Cond: "x", Info: nested(31)}, api.ErrDeep}, {api.Fault{Cond: "x", Info: nested(29)}, api.ErrDeep}}
	fullFault  = api.Fault{Cond: "not-found", Text: "why", Info: nested(2)}

	goodStates = []any{api.State{}, api.State{Kind: api.KReceived, Section: 1, Offset: math.MaxInt}, api.State{Kind: api.KAccepted}, api.State{Kind: api.KRejected}, api.State{Kind: api.KRejected, Fault: fullFault}, api.State{Kind: api.KReleased}, fullState, api.State{Kind: api.KModified}, api.State{Kind: api.KDeclared, Txn: long(32)}, api.State{Kind: api.KTransactional, Txn: "t"}, api.State{Kind: api.KTransactional, Txn: "t", Inner: []api.State{fullState}}}
	badStates  = []wrong{
		{api.State{Kind: 1}, api.ErrTerm}, {api.State{Kind: api.KFault}, api.ErrTerm}, {api.State{Kind: api.KSource}, api.ErrTerm}, {api.State{Failed: true}, api.ErrTerm}, {api.State{Ann: sample.Num(api.Null, 1)}, api.ErrTerm}, {api.State{Inner: []api.State{{}}}, api.ErrTerm}, {api.State{Kind: api.KReceived, Section: -1}, api.ErrTerm}, {api.State{Kind: api.KAccepted, Txn: "t"}, api.ErrTerm}, {api.State{Kind: api.KDeclared}, api.ErrTerm},
		{api.State{Kind: api.KTransactional, Txn: "t", Inner: []api.State{{}}}, api.ErrNested}, {api.State{Kind: api.KModified, Ann: sample.Num(api.Null, 1)}, api.ErrExtra}, {api.State{Kind: api.KModified, Ann: sample.Pairs(a)}, api.ErrMap}, {api.State{Kind: api.KModified, Ann: nested(31)}, api.ErrDeep}, {api.State{Kind: api.KModified, Ann: nested(29)}, api.ErrDeep},
	}
	fullState = api.State{Kind: api.KModified, Failed: true, Elsewhere: true, Ann: nested(3)}

	goodSources = []any{api.Terminus{}, api.Terminus{Kind: api.KSource}, fullSource, api.Terminus{Kind: api.KSource, Expiry: api.ExpSession, Caps: []string{"a"}}, api.Terminus{Kind: api.KSource, Expiry: api.ExpSession, Address: long(4096)}}
	fullSource  = api.Terminus{Kind: api.KSource, Address: "queue/q", Durable: 2, Expiry: api.ExpNever, Timeout: 7, Dynamic: true, Mode: 1, Filter: "priority > 5", Default: fullState, Outcomes: []string{"longshore:accepted:list", "longshore:released:list"}, Caps: []string{"a", "b"}}
	goodTargets = []any{api.Terminus{}, api.Terminus{Kind: api.KTarget}, fullTarget, api.Terminus{Kind: api.KCoordinator}, api.Terminus{Kind: api.KCoordinator, Caps: []string{"a", "b"}}, api.Terminus{Kind: api.KTarget, Expiry: api.ExpSession, Address: "é"}}
	fullTarget  = api.Terminus{Kind: api.KTarget, Address: "topic/t", Durable: 1, Expiry: api.ExpConn, Timeout: maxWord, Dynamic: true, Caps: []string{"a", "b", "a"}}
	badTermini  = []wrong{{api.Terminus{Kind: 1}, api.ErrTerm}, {api.Terminus{Kind: api.KAccepted}, api.ErrTerm}, {api.Terminus{Durable: 1}, api.ErrTerm}, {api.Terminus{Caps: []string{"a"}}, api.ErrTerm}, {api.Terminus{Default: api.State{Failed: true}}, api.ErrTerm}, {api.Terminus{Address: "a"}, api.ErrTerm}, {api.Terminus{Kind: api.KTarget, Mode: 1}, api.ErrTerm}, {api.Terminus{Kind: api.KTarget, Address: "\xff"}, api.ErrAddress}, {api.Terminus{Kind: api.KSource, Address: long(4097)}, api.ErrAddress}, {api.Terminus{Kind: api.KSource, Durable: 3}, api.ErrTerm}, {api.Terminus{Kind: api.KSource, Default: api.State{Kind: api.KReceived}}, api.ErrNested}, {api.Terminus{Kind: api.KSource, Default: api.State{Kind: api.KModified, Ann: nested(29)}}, api.ErrDeep}, {api.Terminus{Kind: api.KSource, Caps: []string{""}}, api.ErrTerm}, {api.Terminus{Kind: api.KCoordinator, Caps: []string{"\x80"}}, api.ErrTerm}, {api.Terminus{Kind: api.KCoordinator, Address: "a"}, api.ErrTerm}}
	badSources  = append([]wrong{{api.Terminus{Kind: api.KTarget}, api.ErrField}, {fullTarget, api.ErrField}, {api.Terminus{Kind: api.KCoordinator}, api.ErrField}, {api.Terminus{Kind: api.KSource, Default: api.State{Kind: api.KModified, Ann: nested(27)}}, api.ErrDeep}}, badTermini...)
	badTargets  = append([]wrong{{api.Terminus{Kind: api.KSource}, api.ErrField}, {fullSource, api.ErrField}}, badTermini...)

	goodUnsettled = []any{[]api.Unsettled(nil), []api.Unsettled{{}}, []api.Unsettled{{Tag: "a"}}, []api.Unsettled{{Tag: "b", State: fullState}, {Tag: "a"}, {Tag: "", State: api.State{Kind: api.KAccepted}}, {Tag: "\xff"}}, []api.Unsettled{{Tag: long(32), State: api.State{Kind: api.KTransactional, Txn: "t", Inner: []api.State{fullState}}}, {Tag: long(31)}}, deliveries(1024)}
	badUnsettled  = []wrong{
		{deliveries(1025), api.ErrMap}, {slices.Repeat([]api.Unsettled{{Tag: long(33)}}, 1025), api.ErrMap}, {[]api.Unsettled{{Tag: "a"}, {Tag: "b"}, {Tag: "a"}}, api.ErrMap}, {[]api.Unsettled{{}, {}}, api.ErrMap}, {[]api.Unsettled{{Tag: "a"}, {Tag: "a", State: api.State{Kind: 1}}}, api.ErrMap}, {append(deliveries(1023), api.Unsettled{Tag: "0"}), api.ErrMap}, {append(deliveries(1023), api.Unsettled{Tag: "1022"}), api.ErrMap},
		{[]api.Unsettled{{Tag: long(33)}}, api.ErrLong}, {[]api.Unsettled{{Tag: "a"}, {Tag: long(33)}}, api.ErrLong}, {[]api.Unsettled{{Tag: long(33)}, {Tag: long(33)}}, api.ErrLong}, {[]api.Unsettled{{Tag: long(33), State: api.State{Kind: 1}}}, api.ErrLong}, {[]api.Unsettled{{Tag: long(33)}, {Tag: "a"}, {Tag: "a"}}, api.ErrLong},
		{[]api.Unsettled{{State: api.State{Failed: true}}}, api.ErrTerm}, {[]api.Unsettled{{Tag: "a"}, {Tag: "b", State: api.State{Kind: api.KDeclared}}}, api.ErrTerm}, {[]api.Unsettled{{Tag: "a", State: api.State{Kind: 1}}, {Tag: "a"}}, api.ErrTerm}, {[]api.Unsettled{{Tag: "a", State: api.State{Kind: 1}}, {Tag: long(33)}}, api.ErrTerm},
		{[]api.Unsettled{{State: api.State{Kind: api.KTransactional, Txn: "t", Inner: []api.State{{}}}}}, api.ErrNested}, {[]api.Unsettled{{State: api.State{Kind: api.KModified, Ann: sample.Num(api.Null, 1)}}}, api.ErrExtra}, {[]api.Unsettled{{State: api.State{Kind: api.KModified, Ann: nested(31)}}}, api.ErrDeep}, {[]api.Unsettled{{State: api.State{Kind: api.KModified, Ann: nested(30)}}}, api.ErrDeep}, {[]api.Unsettled{{State: api.State{Kind: api.KModified, Ann: nested(28)}}}, api.ErrDeep},
	}
)

// deliveries are so many that are not settled, some with states.
func deliveries(n int) []api.Unsettled {
	l := make([]api.Unsettled, n)
	for i := range l {
		l[i].Tag = strconv.Itoa(i)
		if i%3 == 0 {
			l[i].State = api.State{Kind: api.KReceived, Section: i}
		}
	}
	return l
}

// goods are what may stand in a field.
func goods(s spec) []any {
	if s.most > 0 {
		var l []any
		for _, n := range []int{s.least, s.least + 1, s.most - 1, s.most, s.blank, -1, 0, 1, 255, 256, 600} {
			if s.least <= n && n <= s.most {
				l = append(l, n)
			}
		}
		return l
	}
	switch s.name {
	case "Tag":
		return goodTags
	case "Props":
		return goodProps
	case "Source":
		return goodSources
	case "Target":
		return goodTargets
	case "State":
		return goodStates
	case "Fault":
		return goodFaults
	case "Unsettled":
		return goodUnsettled
	}
	if s.kind == api.Bool {
		return []any{false, true}
	}
	return goodNames
}

// wrongs are what may not stand in a field.
func wrongs(s spec) []wrong {
	if s.most > 0 {
		var l []wrong
		for _, n := range []int{math.MinInt, -4294967296, -2, -1, 0, s.least - 1, s.most + 1, math.MaxInt} {
			if n < s.least || n > s.most {
				l = append(l, wrong{n, api.ErrRange})
			}
		}
		return l
	}
	switch s.name {
	case "Tag":
		return badTags
	case "Props":
		return badProps
	case "Source":
		return badSources
	case "Target":
		return badTargets
	case "State":
		return badStates
	case "Fault":
		return badFaults
	case "Unsettled":
		return badUnsettled
	}
	if s.kind == api.Bool {
		return nil
	}
	return badNames
}

// full is a performative of a kind with all that it may have.
func full(kind int) api.Perform {
	all := api.Perform{
		Id: "id", Host: "host", MaxFrame: 512, ChannelMax: 9, Idle: 1000, Props: nested(2),
		Remote: 3, NextIn: 4, InWin: 5, NextOut: 6, OutWin: 7, HandleMax: 8,
		Name: "link", Handle: 10, Receiver: true, SndMode: 1, RcvMode: 1, Source: fullSource, Target: fullTarget,
		Unsettled: []api.Unsettled{{Tag: "b", State: fullState}, {Tag: "a"}}, Incomplete: true, InitialCount: 11, MaxMessage: math.MaxInt,
		Count: 12, Credit: 13, Available: 14, Drain: true, Echo: true,
		DeliveryId: 15, HasTag: true, Tag: "tag", Format: 16, Settled: true, HasSettled: true, More: true, Resume: true, Aborted: true, Batchable: true, State: fullState,
		First: 17, Last: 18, Closed: true, Fault: fullFault,
	}
	p := api.Perform{Kind: kind}
	for _, name := range names(kind) {
		p = with(p, name, reflect.ValueOf(all).FieldByName(name).Interface())
	}
	return p
}

// anything is all performatives that are made here, such as may not be among them.
func anything() []api.Perform {
	l := []api.Perform{{}, {Kind: -1}, {Handle: 1}}
	for _, kind := range kinds {
		l = append(l, perform.Blank(kind), full(kind))
		for _, s := range table[kind] {
			for _, x := range goods(s) {
				l = append(l, having(modelBlank(kind), s, x))
			}
			for _, w := range wrongs(s) {
				l = append(l, having(modelBlank(kind), s, w.x))
			}
		}
	}
	return l
}
