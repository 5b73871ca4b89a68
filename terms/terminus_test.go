package terms_test

import (
	"math"
	"reflect"
	"slices"
	"strings"
	"testing"

	"longshore/api"
	"longshore/sample"
	"longshore/terms"
)

// at is a composite of a kind with nothing but what stands at one place.
func at(kind, place int, v api.Value) api.Value {
	l := make([]api.Value, place+1)
	l[place] = v
	return composite(kind, l...)
}

// Places of a source's fields; those up to dynamicAt are a target's too.
const (
	addressAt = iota
	durableAt
	expiryAt
	timeoutAt
	dynamicAt
	modeAt
	filterAt
	defaultAt
	outcomesAt
	capsAt
)

// capsPlace is where a kind of terminus has its caps.
var capsPlace = map[int]int{api.KSource: capsAt, api.KTarget: modeAt, api.KCoordinator: 0}

// ofSession is a terminus of a kind that has nothing but the usual expiry, so that its composite is empty.
func ofSession(kind int) api.Terminus {
	if kind == api.KCoordinator {
		return api.Terminus{Kind: kind}
	}
	return api.Terminus{Kind: kind, Expiry: api.ExpSession}
}

// P8.3: each kind of a terminus, with all that it has and with no more than it must.
func TestTerminiOfEachKind(t *testing.T) {
	for _, c := range []struct {
		x    api.Terminus
		want string
	}{
		{api.Terminus{}, `null`},
		{ofSession(api.KSource), `(ulong 40 [])`},
		{ofSession(api.KTarget), `(ulong 41 [])`},
		{ofSession(api.KCoordinator), `(ulong 48 [])`},
		{api.Terminus{Kind: api.KTarget}, `(ulong 41 [null null symbol "link-detach"])`},
		{fullTerminus(api.KSource), `(ulong 40 ["queue/q" uint 2 symbol "never" uint 7 true symbol "copy" "priority > 5" (ulong 39 [true true {symbol "in": {symbol "in": {}}}]) array symbol [symbol "longshore:accepted:list" symbol "longshore:modified:list"] array symbol [symbol "a" symbol "b"]])`},
		{fullTerminus(api.KTarget), `(ulong 41 ["queue/q" uint 2 symbol "never" uint 7 true array symbol [symbol "a" symbol "b"]])`},
		{fullTerminus(api.KCoordinator), `(ulong 48 [array symbol [symbol "a" symbol "b"]])`},
		{api.Terminus{Kind: api.KSource, Expiry: api.ExpConn, Mode: 1}, `(ulong 40 [null null symbol "connection-close" null null symbol "copy"])`},
		{api.Terminus{Kind: api.KSource, Expiry: api.ExpSession, Default: api.State{Kind: api.KReleased}}, `(ulong 40 [null null null null null null null (ulong 38 [])])`},
	} {
		wantPackTerminus(t, c.x, parse(c.want), api.OK)
		wantReadTerminus(t, parse(c.want), c.x, api.OK)
	}
}

// P8.3: numbers that are no terminus's kind.
func TestKindsOfTermini(t *testing.T) {
	for _, kind := range append(numbers(-3, 300), math.MinInt, math.MaxInt, 1<<32+api.KSource) {
		want := api.ErrTerm
		if kind == 0 || slices.Contains(terminusKinds, kind) {
			want = api.OK
		}
		if _, e := terms.PackTerminus(api.Terminus{Kind: kind}); e != want {
			t.Errorf("PackTerminus of the kind %d: %d", kind, e)
		}
	}
}

// moreTermini are termini with just one field that is not zero, by that field.
func moreTermini() map[string][]api.Terminus {
	m := map[string][]api.Terminus{
		"Address":  {{Address: "a"}, {Address: "\xff"}, {Address: long(4097)}},
		"Durable":  {{Durable: 1}, {Durable: -1}, {Durable: 3}},
		"Expiry":   {{Expiry: 1}, {Expiry: -1}, {Expiry: 4}},
		"Timeout":  {{Timeout: 1}, {Timeout: -1}, {Timeout: 1 << 32}},
		"Dynamic":  {{Dynamic: true}},
		"Mode":     {{Mode: 1}, {Mode: -1}, {Mode: 2}},
		"Filter":   {{Filter: "a"}, {Filter: "\xff"}, {Filter: long(4097)}},
		"Default":  {{Default: api.State{Kind: api.KAccepted}}, {Default: api.State{Kind: api.KReceived}}},
		"Outcomes": {{Outcomes: finals}, {Outcomes: []string{""}}},
		"Caps":     {{Caps: []string{"a"}}, {Caps: []string{""}}},
	}
	for _, l := range extras() {
		for _, s := range l {
			m["Default"] = append(m["Default"], api.Terminus{Default: s})
		}
	}
	return m
}

// P8.3: each field for each kind that does not have it, and for none.
func TestFieldsThatATerminusDoesNotHave(t *testing.T) {
	fields := reflect.TypeFor[api.Terminus]().NumField()
	if len(moreTermini()) != fields-1 {
		t.Fatalf("termini have %d fields", fields)
	}
	for name, l := range moreTermini() {
		for _, other := range l {
			for _, kind := range append(terminusKinds, 0, 36, 42) {
				x := with(api.Terminus{Kind: kind}, other, name)
				if slices.Contains(terminusHas[kind], name) {
					wantTerminusAsModel(t, x)
					continue
				}
				wantPackTerminus(t, x, api.Value{}, api.ErrTerm)
				if kind != 0 {
					wantPackTerminus(t, with(fullTerminus(kind), other, name), api.Value{}, api.ErrTerm)
				}
			}
		}
	}
}

// P8.3, P8.4: an Address has at most 4096 bytes, and is a text; an empty one is Null.
func TestAddresses(t *testing.T) {
	for _, kind := range []int{api.KSource, api.KTarget} {
		x := ofSession(kind)
		for _, x.Address = range goodTexts {
			want := composite(kind)
			if x.Address != "" {
				want = at(kind, addressAt, sample.Text(api.String, x.Address))
			}
			wantPackTerminus(t, x, want, api.OK)
			wantReadTerminus(t, at(kind, addressAt, sample.Text(api.String, x.Address)), x, api.OK)
		}
		for _, x.Address = range badTexts {
			wantPackTerminus(t, x, api.Value{}, api.ErrAddress)
		}
		wantReadTerminus(t, at(kind, addressAt, sample.Text(api.String, long(4097))), api.Terminus{}, api.ErrAddress)
		wantReadTerminus(t, at(kind, addressAt, sample.Text(api.String, "\xff")), api.Terminus{}, api.ErrText)
		wantReadTerminus(t, at(kind, addressAt, sample.Text(api.Symbol, "a")), api.Terminus{}, api.ErrField)
	}
}

// P8.3, P8.4: numbers at each end of what they may be, and one beyond.
func TestNumbersOfTermini(t *testing.T) {
	for _, kind := range []int{api.KSource, api.KTarget} {
		x := ofSession(kind)
		for _, x.Durable = range []int{math.MinInt, -1, 0, 1, 2, 3, 4, math.MaxInt} {
			wantNumber(t, x, durableAt, x.Durable, 2)
		}
		x = ofSession(kind)
		for _, x.Timeout = range []int{math.MinInt, -1, 0, 1, api.MaxWord - 1, api.MaxWord, api.MaxWord + 1, math.MaxInt} {
			wantNumber(t, x, timeoutAt, x.Timeout, api.MaxWord)
		}
		for _, n := range []uint64{3, 4, api.MaxWord} {
			wantReadTerminus(t, at(kind, durableAt, sample.Num(api.Uint, n)), api.Terminus{}, api.ErrTerm)
		}
		for _, place := range []int{durableAt, timeoutAt} {
			wantReadTerminus(t, at(kind, place, sample.Num(api.Ulong, 1)), api.Terminus{}, api.ErrField)
			wantReadTerminus(t, at(kind, place, sample.Num(api.Uint, 1<<32)), api.Terminus{}, api.ErrNum)
		}
	}
}

// wantNumber wants a terminus with a number refused, or packed with it at a place and read from there.
func wantNumber(t *testing.T, x api.Terminus, place, n, most int) {
	t.Helper()
	switch {
	case n < 0 || n > most:
		wantPackTerminus(t, x, api.Value{}, api.ErrTerm)
		return
	case n == 0:
		wantPackTerminus(t, x, composite(x.Kind), api.OK)
	default:
		wantPackTerminus(t, x, at(x.Kind, place, sample.Num(api.Uint, uint64(n))), api.OK)
	}
	wantReadTerminus(t, at(x.Kind, place, sample.Num(api.Uint, uint64(n))), x, api.OK)
}

// P8.3, P8.4: how long a terminus lives: four words, the usual one not written.
func TestExpiries(t *testing.T) {
	for _, kind := range []int{api.KSource, api.KTarget} {
		for n, word := range map[int]string{api.ExpLink: "link-detach", api.ExpSession: "session-end", api.ExpConn: "connection-close", api.ExpNever: "never"} {
			x, v := api.Terminus{Kind: kind, Expiry: n}, at(kind, expiryAt, sample.Text(api.Symbol, word))
			wantReadTerminus(t, v, x, api.OK)
			if n == api.ExpSession {
				v = composite(kind)
			}
			wantPackTerminus(t, x, v, api.OK)
		}
		for _, n := range []int{math.MinInt, -1, 4, 5, math.MaxInt} {
			wantPackTerminus(t, api.Terminus{Kind: kind, Expiry: n}, api.Value{}, api.ErrTerm)
		}
		for _, word := range []string{"", "soon", "Never", "never ", "link", "session", "move", "copy", "session-end\x00"} {
			wantReadTerminus(t, at(kind, expiryAt, sample.Text(api.Symbol, word)), api.Terminus{}, api.ErrTerm)
		}
		wantReadTerminus(t, at(kind, expiryAt, api.Value{}), ofSession(kind), api.OK)
		wantReadTerminus(t, at(kind, expiryAt, sample.Text(api.String, "never")), api.Terminus{}, api.ErrField)
	}
}

// P8.3, P8.4: a Bool that is not there, Null, false, true.
func TestDynamic(t *testing.T) {
	for _, kind := range []int{api.KSource, api.KTarget} {
		x := ofSession(kind)
		wantReadTerminus(t, at(kind, dynamicAt, api.Value{}), x, api.OK)
		wantReadTerminus(t, at(kind, dynamicAt, sample.Num(api.Bool, 0)), x, api.OK)
		wantReadTerminus(t, at(kind, dynamicAt, sample.Num(api.Uint, 1)), api.Terminus{}, api.ErrField)
		x.Dynamic = true
		wantReadTerminus(t, at(kind, dynamicAt, sample.Num(api.Bool, 1)), x, api.OK)
		wantPackTerminus(t, x, at(kind, dynamicAt, sample.Num(api.Bool, 1)), api.OK)
	}
}

// P8.3, P8.4: the modes move (Null) and copy, and others.
func TestModes(t *testing.T) {
	x := ofSession(api.KSource)
	for _, x.Mode = range []int{math.MinInt, -1, 2, 3, math.MaxInt} {
		wantPackTerminus(t, x, api.Value{}, api.ErrTerm)
	}
	for _, word := range []string{"", "Move", "copy ", "browse", "never", "0", "1"} {
		wantReadTerminus(t, at(api.KSource, modeAt, sample.Text(api.Symbol, word)), api.Terminus{}, api.ErrTerm)
	}
	x.Mode = 0
	wantPackTerminus(t, x, composite(api.KSource), api.OK)
	wantReadTerminus(t, at(api.KSource, modeAt, api.Value{}), x, api.OK)
	wantReadTerminus(t, at(api.KSource, modeAt, sample.Text(api.Symbol, "move")), x, api.OK)
	x.Mode = 1
	wantPackTerminus(t, x, at(api.KSource, modeAt, sample.Text(api.Symbol, "copy")), api.OK)
	wantReadTerminus(t, at(api.KSource, modeAt, sample.Text(api.Symbol, "copy")), x, api.OK)
	wantReadTerminus(t, at(api.KSource, modeAt, sample.Num(api.Uint, 1)), api.Terminus{}, api.ErrField)
}

// P8.3, P8.4: a Filter has at most 4096 bytes, and is a text; an empty one is Null.
func TestFilters(t *testing.T) {
	x := ofSession(api.KSource)
	for _, x.Filter = range goodTexts {
		want := composite(api.KSource)
		if x.Filter != "" {
			want = at(api.KSource, filterAt, sample.Text(api.String, x.Filter))
		}
		wantPackTerminus(t, x, want, api.OK)
		wantReadTerminus(t, at(api.KSource, filterAt, sample.Text(api.String, x.Filter)), x, api.OK)
	}
	for _, x.Filter = range badTexts {
		wantPackTerminus(t, x, api.Value{}, api.ErrTerm)
	}
	wantReadTerminus(t, at(api.KSource, filterAt, sample.Text(api.String, long(4097))), api.Terminus{}, api.ErrTerm)
}

// P8.3: a Default is none, or an outcome; then PackState's errors.
func TestDefaults(t *testing.T) {
	for _, kind := range outcomeKinds {
		for _, s := range []api.State{lean(kind), full(kind)} {
			x := ofSession(api.KSource)
			x.Default = s
			v, _ := modelPackState(s)
			wantPackTerminus(t, x, at(api.KSource, defaultAt, v), api.OK)
			wantReadTerminus(t, at(api.KSource, defaultAt, v), x, api.OK)
			wantReadTerminus(t, at(api.KSource, defaultAt, byName(kind, v.List[1].List...)), x, api.OK)
		}
		wantPackTerminus(t, api.Terminus{Kind: api.KSource, Default: api.State{Kind: kind, Txn: "t"}}, api.Value{}, api.ErrTerm)
	}
	for _, kind := range []int{api.KReceived, api.KDeclared, api.KTransactional, api.KFault, api.KSource, -1, math.MaxInt} {
		wantPackTerminus(t, api.Terminus{Kind: api.KSource, Default: full(kind)}, api.Value{}, api.ErrNested)
		wantPackTerminus(t, api.Terminus{Kind: api.KSource, Default: api.State{Kind: kind, Section: -1}}, api.Value{}, api.ErrNested)
	}
	for _, l := range extras() {
		for _, s := range l {
			wantPackTerminus(t, api.Terminus{Kind: api.KSource, Default: s}, api.Value{}, api.ErrTerm)
		}
	}
	for _, bad := range badMaps {
		wantPackTerminus(t, api.Terminus{Kind: api.KSource, Default: api.State{Kind: api.KModified, Ann: bad.v}}, api.Value{}, bad.e)
		wantPackTerminus(t, api.Terminus{Kind: api.KSource, Default: api.State{Kind: api.KRejected, Fault: api.Fault{Cond: "x", Info: bad.v}}}, api.Value{}, bad.e)
	}
	for s, want := range map[string]api.Errno{
		`(ulong 35 [uint 1 ulong 1])`: api.ErrField, `(ulong 52 [binary "t"])`: api.ErrField, `uint 1`: api.ErrField, `(ulong 36 [null])`: api.ErrFields, `(ulong 37 [(ulong 29 [])])`: api.ErrMust,
		`(ulong 37 [(ulong 29 [symbol ""])])`: api.ErrTerm, `(ulong 37 [(ulong 29 [symbol "x y"])])`: api.ErrTerm,
	} {
		wantReadTerminus(t, at(api.KSource, defaultAt, parse(s)), api.Terminus{}, want)
	}
}

// P8.3, P8.4: each of Outcomes is an outcome's name, none twice; none are Null.
func TestOutcomes(t *testing.T) {
	x := ofSession(api.KSource)
	for _, x.Outcomes = range [][]string{finals[:1], finals[1:2], finals[2:3], finals[3:], finals, {finals[3], finals[0]}, {finals[2], finals[3], finals[1], finals[0]}} {
		v := at(api.KSource, outcomesAt, symbolsOf(x.Outcomes))
		wantPackTerminus(t, x, v, api.OK)
		wantReadTerminus(t, v, x, api.OK)
	}
	for _, l := range [][]string{{finals[0], finals[0]}, {finals[0], finals[1], finals[0]}, append(finals[:4:4], finals[3]), append(finals[:4:4], finals[0]), {"", finals[0]}, {finals[0], ""}} {
		x.Outcomes = l
		wantPackTerminus(t, x, api.Value{}, api.ErrTerm)
		wantReadTerminus(t, at(api.KSource, outcomesAt, symbolsOf(l)), api.Terminus{}, api.ErrTerm)
	}
	for _, name := range noFinals {
		for _, x.Outcomes = range [][]string{{name}, {finals[0], name}, {name, finals[0]}} {
			wantPackTerminus(t, x, api.Value{}, api.ErrTerm)
			wantReadTerminus(t, at(api.KSource, outcomesAt, symbolsOf(x.Outcomes)), api.Terminus{}, api.ErrTerm)
		}
		wantReadTerminus(t, at(api.KSource, outcomesAt, sample.Text(api.Symbol, name)), api.Terminus{}, api.ErrTerm)
	}
	x.Outcomes = []string{}
	wantPackTerminus(t, x, composite(api.KSource), api.OK)
	wantReadTerminus(t, at(api.KSource, outcomesAt, sample.Array(api.Symbol)), x, api.OK)
	wantReadTerminus(t, at(api.KSource, outcomesAt, api.Value{}), x, api.OK)
	x.Outcomes = finals[2:3]
	wantReadTerminus(t, at(api.KSource, outcomesAt, sample.Text(api.Symbol, finals[2])), x, api.OK)
	wantReadTerminus(t, at(api.KSource, outcomesAt, sample.Array(api.String)), api.Terminus{}, api.ErrField)
}

// P8.3, P8.4: each of Caps has 1 to 64 bytes below 80 (hexadecimal); a name may stand twice; none are Null.
func TestCaps(t *testing.T) {
	for _, kind := range terminusKinds {
		x, place := ofSession(kind), capsPlace[kind]
		for _, x.Caps = range [][]string{goodCaps[:1], goodCaps, {"a", "a"}, slices.Repeat([]string{"b"}, 1000)} {
			wantPackTerminus(t, x, at(kind, place, symbolsOf(x.Caps)), api.OK)
			wantReadTerminus(t, at(kind, place, symbolsOf(x.Caps)), x, api.OK)
		}
		for _, name := range badCaps {
			for _, x.Caps = range [][]string{{name}, {"a", name}, {name, "a"}} {
				wantPackTerminus(t, x, api.Value{}, api.ErrTerm)
				want := api.ErrTerm
				if strings.IndexFunc(name, func(r rune) bool { return r >= 0x80 }) >= 0 {
					want = api.ErrText
				}
				wantReadTerminus(t, at(kind, place, symbolsOf(x.Caps)), api.Terminus{}, want)
			}
		}
		for n := range 256 {
			sign := string([]byte{byte(n)})
			for _, x.Caps = range [][]string{{sign}, {"a" + sign}, {sign + "a"}, {long(63) + sign}} {
				if n < 0x80 {
					wantPackTerminus(t, x, at(kind, place, symbolsOf(x.Caps)), api.OK)
				} else {
					wantPackTerminus(t, x, api.Value{}, api.ErrTerm)
				}
			}
		}
		x.Caps = nil
		wantReadTerminus(t, at(kind, place, sample.Array(api.Symbol)), x, api.OK)
		wantReadTerminus(t, at(kind, place, api.Value{}), x, api.OK)
		wantReadTerminus(t, at(kind, place, sample.Array(api.Binary)), api.Terminus{}, api.ErrField)
		wantReadTerminus(t, at(kind, place, sample.Text(api.Symbol, "")), api.Terminus{}, api.ErrTerm)
		x.Caps = []string{"a"}
		wantReadTerminus(t, at(kind, place, sample.Text(api.Symbol, "a")), x, api.OK)
	}
}

// P8.3: shape.Pack's error where a Default is too deep for the whole, behind what is wrong with Outcomes and Caps; where it is too deep on its own, ahead of that.
func TestDeepDefaults(t *testing.T) {
	for deep := 24; deep <= 33; deep++ {
		x := api.Terminus{Kind: api.KSource, Default: api.State{Kind: api.KModified, Ann: nested(deep)}}
		bad := x
		bad.Caps = []string{""}
		want, wantBad := api.ErrDeep, api.ErrDeep
		if deep <= 28 {
			want = api.OK
		}
		if deep <= 30 {
			wantBad = api.ErrTerm
		}
		if e := wantTerminusAsModel(t, x); e != want {
			t.Errorf("PackTerminus with a Map %d deep: %d", deep, e)
		}
		wantPackTerminus(t, bad, api.Value{}, wantBad)
		bad.Outcomes, bad.Caps = []string{""}, nil
		wantPackTerminus(t, bad, api.Value{}, wantBad)
	}
}

// P8.3: of two things that are wrong the error is that of the first one.
func TestOrderOfTermini(t *testing.T) {
	source := []struct {
		name string
		x    api.Terminus
		e    api.Errno
	}{
		{"Address", api.Terminus{Address: "\xff"}, api.ErrAddress},
		{"Durable", api.Terminus{Durable: 3}, api.ErrTerm},
		{"Expiry", api.Terminus{Expiry: 4}, api.ErrTerm},
		{"Timeout", api.Terminus{Timeout: -1}, api.ErrTerm},
		{"Mode", api.Terminus{Mode: 2}, api.ErrTerm},
		{"Filter", api.Terminus{Filter: "\xff"}, api.ErrTerm},
		{"Default", api.Terminus{Default: api.State{Kind: api.KReceived}}, api.ErrNested},
		{"Default", api.Terminus{Default: api.State{Kind: api.KModified, Ann: sample.Num(api.Null, 1)}}, api.ErrExtra},
		{"Outcomes", api.Terminus{Outcomes: []string{"x"}}, api.ErrTerm},
		{"Caps", api.Terminus{Caps: []string{""}}, api.ErrTerm},
	}
	for i, first := range source {
		for _, second := range source[i:] {
			if second.name == first.name && second.e != first.e {
				continue
			}
			x := with(with(fullTerminus(api.KSource), second.x, second.name), first.x, first.name)
			wantPackTerminus(t, x, api.Value{}, first.e)
		}
	}
	wantPackTerminus(t, api.Terminus{Kind: api.KTarget, Address: "\xff", Mode: 1}, api.Value{}, api.ErrTerm)
	wantPackTerminus(t, api.Terminus{Kind: api.KTarget, Address: "\xff", Durable: 3}, api.Value{}, api.ErrAddress)
	wantPackTerminus(t, api.Terminus{Kind: api.KCoordinator, Address: "\xff"}, api.Value{}, api.ErrTerm)
	wantPackTerminus(t, api.Terminus{Address: "\xff"}, api.Value{}, api.ErrTerm)
	wantPackTerminus(t, api.Terminus{Kind: api.KTarget, Default: api.State{Kind: api.KReceived}}, api.Value{}, api.ErrTerm)
}

// P8.4: an Address is looked at ahead of all else, and shape.Unpack's errors ahead of that.
func TestOrderOfReads(t *testing.T) {
	much := sample.Text(api.String, long(4097))
	bad := []api.Value{much, sample.Num(api.Uint, 3), sample.Text(api.Symbol, "soon"), {}, {}, sample.Text(api.Symbol, "browse"), much, parse(`(ulong 37 [(ulong 29 [symbol ""])])`), sample.Text(api.Symbol, "x"), sample.Text(api.Symbol, "")}
	for place := range bad {
		if bad[place].Kind == api.Null {
			continue
		}
		l := make([]api.Value, len(bad))
		l[place] = bad[place]
		want := api.ErrTerm
		if place == addressAt {
			want = api.ErrAddress
		}
		wantReadTerminus(t, composite(api.KSource, l...), api.Terminus{}, want)
		l[addressAt] = much
		wantReadTerminus(t, composite(api.KSource, l...), api.Terminus{}, api.ErrAddress)
		l[capsAt] = sample.Num(api.Uint, 1)
		wantReadTerminus(t, composite(api.KSource, l...), api.Terminus{}, api.ErrField)
		wantReadTerminus(t, composite(api.KSource, append(l, api.Value{})...), api.Terminus{}, api.ErrFields)
	}
}

// P8.4: of Null, all of it zero, there is no terminus; shape.Unpack's errors are handed on; of another kind that it takes it is ErrTerm.
func TestReadTerminusOfOthers(t *testing.T) {
	wantReadTerminus(t, api.Value{}, api.Terminus{}, api.OK)
	wantReadTerminus(t, api.Value{List: []api.Value{}}, api.Terminus{}, api.OK)
	for _, v := range []api.Value{sample.Num(api.Null, 1), sample.Text(api.Null, "a"), {Elem: 1}, {List: []api.Value{{}}}} {
		wantReadTerminus(t, v, api.Terminus{}, api.ErrExtra)
	}
	for s, want := range map[string]api.Errno{
		`false`: api.ErrComposite, `uint 0`: api.ErrComposite, `ulong 40`: api.ErrComposite, `[]`: api.ErrComposite, `(uint 40 [])`: api.ErrComposite, `(ulong 40 {})`: api.ErrComposite, `(ulong 40 null)`: api.ErrComposite, `(ulong 42 [])`: api.ErrComposite, `(ulong 120 {})`: api.ErrComposite,
		`(ulong 48 [null null])`: api.ErrFields, `(ulong 41 [null null null null null null null])`: api.ErrFields, `(ulong 48 ["a"])`: api.ErrField,
		`(ulong 29 [symbol "x"])`: api.ErrTerm, `(ulong 36 [])`: api.ErrTerm, `(ulong 49 [])`: api.ErrTerm, `(ulong 52 [binary "t"])`: api.ErrTerm, `(ulong 24 [])`: api.ErrTerm,
		`(ulong 29 [])`: api.ErrMust, `(ulong 36 [null])`: api.ErrFields,
	} {
		wantReadTerminus(t, parse(s), api.Terminus{}, want)
	}
	wantReadTerminus(t, at(api.KSource, defaultAt, composite(api.KModified, api.Value{}, api.Value{}, nested(29))), api.Terminus{}, api.ErrDeep)
	for _, kind := range terminusKinds {
		v, _ := modelPackTerminus(fullTerminus(kind))
		wantReadTerminus(t, byName(kind, v.List[1].List...), fullTerminus(kind), api.OK)
		wantReadTerminus(t, byName(kind), ofSession(kind), api.OK)
		wantReadTerminus(t, byName(kind, make([]api.Value, capsPlace[kind]+1)...), ofSession(kind), api.OK)
	}
}
