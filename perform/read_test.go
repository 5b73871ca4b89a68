package perform_test

import (
	"bytes"
	"math"
	"slices"
	"testing"

	"longshore/api"
	"longshore/perform"
	"longshore/sample"
)

// lean are the fields of a kind on the wire with no more than must be there.
func lean(kind int) []api.Value {
	l := make([]api.Value, len(table[kind]))
	for i, s := range table[kind] {
		switch {
		case !s.must || s.has != "":
		case s.kind == api.String:
			l[i] = sample.Text(s.kind, "a")
		default:
			l[i] = sample.Num(s.kind, 0)
		}
	}
	return l
}

// leanPerform is what these say.
func leanPerform(kind int) api.Perform {
	p := modelBlank(kind)
	switch kind {
	case api.KOpen:
		p.Id = "a"
	case api.KAttach:
		p.Name = "a"
	}
	return p
}

// laid is a composite in which one field is v, and all others as little as may be.
func laid(kind, at int, v api.Value) api.Value {
	l := lean(kind)
	l[at] = v
	return composite(kind, l...)
}

// wired is what stands in a field on the wire, and what it says there.
type wired struct {
	v api.Value
	x any
}

// refused is what stands in a field on the wire that shape takes, and this layer or terms refuse.
type refused struct {
	v api.Value
	e api.Errno
}

var (
	wiredSources = []wired{
		{composite(api.KSource), api.Terminus{Kind: api.KSource, Expiry: api.ExpSession}},
		{byName(api.KSource, sample.Text(api.String, "q")), api.Terminus{Kind: api.KSource, Address: "q", Expiry: api.ExpSession}},
		{parse(`(ulong 40 [null uint 2 symbol "never" uint 7 true symbol "copy" "f" (ulong 36 []) symbol "longshore:accepted:list" array symbol [symbol "a" symbol "b"]])`), api.Terminus{Kind: api.KSource, Durable: 2, Expiry: api.ExpNever, Timeout: 7, Dynamic: true, Mode: 1, Filter: "f", Default: api.State{Kind: api.KAccepted}, Outcomes: []string{"longshore:accepted:list"}, Caps: []string{"a", "b"}}},
	}
	refusedSources = []refused{{parse(`(ulong 40 [null uint 3])`), api.ErrTerm}, {composite(api.KSource, sample.Text(api.String, long(4097))), api.ErrAddress}, {parse(`(ulong 40 [null null symbol "soon"])`), api.ErrTerm}, {parse(`(ulong 40 [null null null null null null null (ulong 37 [(ulong 29 [symbol "X"])])])`), api.ErrTerm}, {parse(`(ulong 40 [null null null null null null null null null symbol ""])`), api.ErrTerm}}
	wiredTargets   = []wired{
		{composite(api.KTarget), api.Terminus{Kind: api.KTarget, Expiry: api.ExpSession}},
		{byName(api.KCoordinator, a), api.Terminus{Kind: api.KCoordinator, Caps: []string{"a"}}},
		{parse(`(ulong 41 ["q" uint 1 symbol "link-detach" null null symbol "c"])`), api.Terminus{Kind: api.KTarget, Address: "q", Durable: 1, Caps: []string{"c"}}},
	}
	refusedTargets = []refused{{parse(`(ulong 41 [null uint 3])`), api.ErrTerm}, {composite(api.KTarget, sample.Text(api.String, long(4097))), api.ErrAddress}, {composite(api.KCoordinator, sample.Text(api.Symbol, long(65))), api.ErrTerm}}
	wiredStates    = []wired{
		{composite(api.KAccepted), api.State{Kind: api.KAccepted}},
		{byName(api.KReleased), api.State{Kind: api.KReleased}},
		{parse(`(ulong 35 [uint 1 ulong 9223372036854775807])`), api.State{Kind: api.KReceived, Section: 1, Offset: math.MaxInt}},
		{parse(`(ulong 39 [false true {}])`), api.State{Kind: api.KModified, Elsewhere: true, Ann: sample.Pairs()}},
		{parse(`(ulong 52 [binary "t" (ulong 37 [(ulong 29 [symbol "x"])])])`), api.State{Kind: api.KTransactional, Txn: "t", Inner: []api.State{{Kind: api.KRejected, Fault: api.Fault{Cond: "x"}}}}},
	}
	refusedStates = []refused{{parse(`(ulong 35 [uint 1 ulong 9223372036854775808])`), api.ErrTerm}, {parse(`(ulong 51 [binary ""])`), api.ErrTerm}, {parse(`(ulong 37 [(ulong 29 [symbol ""])])`), api.ErrTerm}, {composite(api.KTransactional, sample.Text(api.Binary, long(33))), api.ErrTerm}}
	wiredFaults   = []wired{{parse(`(ulong 29 [symbol "x"])`), api.Fault{Cond: "x"}}, {parse(`(symbol "longshore:fault:list" [symbol "x" "" {}])`), api.Fault{Cond: "x", Info: sample.Pairs()}}, {parse(`(ulong 29 [symbol "not-found" "why" {symbol "in": {}}])`), fullFault}}
	refusedFaults = []refused{{parse(`(ulong 29 [symbol "X"])`), api.ErrTerm}, {parse(`(ulong 29 [symbol ""])`), api.ErrTerm}, {composite(api.KFault, a, sample.Text(api.String, long(4097))), api.ErrTerm}}

	wiredUnsettled = []wired{
		{sample.Pairs(), []api.Unsettled(nil)},
		{parse(`{binary "a": null}`), []api.Unsettled{{Tag: "a"}}},
		{parse(`{binary "": (ulong 36 []), binary "b": null, binary "a": (symbol "longshore:modified:list" [null true])}`), []api.Unsettled{{State: api.State{Kind: api.KAccepted}}, {Tag: "b"}, {Tag: "a", State: api.State{Kind: api.KModified, Elsewhere: true}}}},
		{sample.Pairs(sample.Text(api.Binary, long(32)), api.Value{}), []api.Unsettled{{Tag: long(32)}}},
		{sample.Pairs(sample.Text(api.Binary, "\xff\x00"), wiredStates[4].v), []api.Unsettled{{Tag: "\xff\x00", State: wiredStates[4].x.(api.State)}}},
	}
	refusedUnsettled = []refused{
		{parse(`{"a": null}`), api.ErrField}, {parse(`{symbol "a": null}`), api.ErrField}, {parse(`{null: null}`), api.ErrField}, {parse(`{binary "a": null, uint 1: null}`), api.ErrField}, {parse(`{[binary "a"]: null}`), api.ErrField}, {parse(`{uint 1: uint 1}`), api.ErrField}, {sample.Pairs(sample.Text(api.String, long(33)), a), api.ErrField},
		{sample.Pairs(sample.Text(api.Binary, long(33)), api.Value{}), api.ErrLong}, {sample.Pairs(sample.Text(api.Binary, "a"), api.Value{}, sample.Text(api.Binary, long(33)), a), api.ErrLong}, {sample.Pairs(sample.Text(api.Binary, long(33)), a, a, a), api.ErrLong},
		{parse(`{binary "a": uint 1}`), api.ErrComposite}, {parse(`{binary "a": {}}`), api.ErrComposite}, {parse(`{binary "a": (ulong 36 {})}`), api.ErrComposite}, {parse(`{binary "a": (ulong 36 [null])}`), api.ErrFields}, {parse(`{binary "a": (ulong 51 [])}`), api.ErrMust}, {parse(`{binary "a": (ulong 51 [uint 1])}`), api.ErrField}, {parse(`{binary "a": (ulong 40 [])}`), api.ErrTerm}, {parse(`{binary "a": (ulong 51 [binary ""])}`), api.ErrTerm}, {parse(`{binary "b": null, binary "a": (ulong 51 [binary ""]), uint 1: null}`), api.ErrTerm}, {parse(`{binary "a": (ulong 52 [binary "t" (ulong 35 [uint 1 ulong 1])])}`), api.ErrField},
	}
)

// wires are what may stand in a field on the wire, beside Null.
func wires(s spec) []wired {
	switch s.name {
	case "Source":
		return wiredSources
	case "Target":
		return wiredTargets
	case "State":
		return wiredStates
	case "Fault":
		return wiredFaults
	case "Unsettled":
		return wiredUnsettled
	}
	var l []wired
	for _, x := range goods(s) {
		if n, is := x.(int); is && n < 0 || isZero(x) && s.name == "Props" {
			continue
		}
		v, _ := modelOf(s, x)
		l = append(l, wired{v, x})
	}
	return l
}

// refusals are what may not stand in a field, though it is of the kind that the field wants.
func refusals(s spec) []refused {
	switch s.name {
	case "Source":
		return refusedSources
	case "Target":
		return refusedTargets
	case "State":
		return refusedStates
	case "Fault":
		return refusedFaults
	case "Unsettled":
		return refusedUnsettled
	case "MaxFrame":
		return []refused{{sample.Num(api.Uint, 511), api.ErrRange}, {sample.Num(api.Uint, 0), api.ErrRange}, {sample.Num(api.Uint, 1), api.ErrRange}, {sample.Num(api.Uint, 256), api.ErrRange}}
	case "SndMode":
		return []refused{{sample.Num(api.Ubyte, 3), api.ErrRange}, {sample.Num(api.Ubyte, 255), api.ErrRange}}
	case "RcvMode":
		return []refused{{sample.Num(api.Ubyte, 2), api.ErrRange}, {sample.Num(api.Ubyte, 255), api.ErrRange}}
	case "MaxMessage":
		return []refused{{sample.Num(api.Ulong, 1<<63), api.ErrRange}, {sample.Num(api.Ulong, math.MaxUint64), api.ErrRange}}
	case "Id", "Host", "Name":
		return []refused{{sample.Text(api.String, long(65)), api.ErrLong}, {sample.Text(api.String, long(63)+"é"), api.ErrLong}, {sample.Text(api.String, long(5000)), api.ErrLong}}
	case "Tag":
		return []refused{{sample.Text(api.Binary, long(33)), api.ErrLong}, {sample.Text(api.Binary, "\xff"+long(32)), api.ErrLong}, {sample.Text(api.Binary, long(300)), api.ErrLong}}
	}
	return nil
}

// P9.4: each field of each kind that is there, by a descriptor of either form.
func TestReadOfEachField(t *testing.T) {
	for _, kind := range kinds {
		for i, s := range table[kind] {
			for _, w := range wires(s) {
				want := having(leanPerform(kind), s, w.x)
				v := laid(kind, i, w.v)
				for _, v := range []api.Value{v, byName(kind, v.List[1].List...), composite(kind, v.List[1].List[:lastSaid(v)+1]...)} {
					b := encoded(v)
					wantRead(t, b, want, len(b))
				}
			}
		}
	}
}

// lastSaid is the place of the last field that is not Null; -1, if all are.
func lastSaid(v api.Value) int {
	l := v.List[1].List
	for i := len(l) - 1; i >= 0; i-- {
		if l[i].Kind != api.Null {
			return i
		}
	}
	return -1
}

// P9.4: fields that are Null, or not there, are as in Blank; those that must be there are missed.
func TestReadOfNulls(t *testing.T) {
	for _, kind := range kinds {
		l := lean(kind)
		for n := lastSaid(composite(kind, l...)) + 1; n <= len(l); n++ {
			for _, v := range []api.Value{composite(kind, l[:n]...), byName(kind, l[:n]...)} {
				wantRead(t, encoded(v), leanPerform(kind), len(encoded(v)))
			}
		}
		for i, s := range table[kind] {
			v := laid(kind, i, api.Value{})
			if s.must && s.has == "" {
				wantFault(t, encoded(v), api.ErrMust)
				wantFault(t, encoded(composite(kind, l[:i]...)), api.ErrMust)
				continue
			}
			wantRead(t, encoded(v), leanPerform(kind), len(encoded(v)))
		}
		wantFault(t, encoded(composite(kind, append(l, api.Value{})...)), api.ErrFields)
		wantFault(t, encoded(byName(kind, append(l, a)...)), api.ErrFields)
	}
}

// P9.4: each field of each kind that is of the kind that it wants, and refused.
func TestReadOfRefusedFields(t *testing.T) {
	for _, kind := range kinds {
		for i, s := range table[kind] {
			for _, r := range refusals(s) {
				v := laid(kind, i, r.v)
				wantFault(t, encoded(v), r.e)
				wantFault(t, encoded(byName(kind, v.List[1].List...)), r.e)
			}
		}
	}
}

// P9.4: bounds that numbers on the wire can be out of, by their bytes.
func TestReadOfBounds(t *testing.T) {
	open := func(n string) []byte { return hex("00 53 10 c0 0a 03 a1 01 61 40 70 " + n) }
	for n, want := range map[string]int{"00 00 02 00": 512, "00 00 02 01": 513, "ff ff ff ff": 4294967295, "80 00 00 00": 1 << 31} {
		wantRead(t, open(n), blank(api.KOpen, func(p *api.Perform) { p.Id, p.MaxFrame = "a", want }), 15)
	}
	for _, n := range []string{"00 00 01 ff", "00 00 00 00", "00 00 00 01"} {
		wantFault(t, open(n), api.ErrRange)
	}
	attach := func(tail string, n int) []byte {
		b := hex("00 53 12 c0 00 00 a1 01 6c 43 41 " + tail)
		b[4], b[5] = byte(len(b)-5), byte(n)
		return b
	}
	of := func(turn func(p *api.Perform)) api.Perform {
		return blank(api.KAttach, func(p *api.Perform) {
			p.Name, p.Receiver = "l", true
			turn(p)
		})
	}
	for mode := range 256 {
		snd, rcv := attach("50 00", 4), attach("40 50 00", 5)
		snd[len(snd)-1], rcv[len(rcv)-1] = byte(mode), byte(mode)
		if mode <= 2 {
			wantRead(t, snd, of(func(p *api.Perform) { p.SndMode = mode }), len(snd))
		} else {
			wantFault(t, snd, api.ErrRange)
		}
		if mode <= 1 {
			wantRead(t, rcv, of(func(p *api.Perform) { p.RcvMode = mode }), len(rcv))
		} else {
			wantFault(t, rcv, api.ErrRange)
		}
	}
	most := func(n string) []byte { return attach("40 40 40 40 40 40 40 80 "+n, 11) }
	for n, want := range map[string]int{"7f ff ff ff ff ff ff ff": math.MaxInt, "00 00 00 00 00 00 00 00": 0, "00 00 00 00 00 00 00 01": 1} {
		wantRead(t, most(n), of(func(p *api.Perform) { p.MaxMessage = want }), len(most(n)))
	}
	wantFault(t, most("80 00 00 00 00 00 00 00"), api.ErrRange)
	wantFault(t, most("ff ff ff ff ff ff ff ff"), api.ErrRange)
}

// P9.4: of two fields that are refused the first one counts.
func TestWhichFieldIsReadFirst(t *testing.T) {
	for _, kind := range kinds {
		specs := table[kind]
		for i, s := range specs {
			for _, r := range refusals(s) {
				for j := i + 1; j < len(specs); j++ {
					for _, later := range refusals(specs[j]) {
						v := laid(kind, i, r.v)
						v.List[1].List[j] = later.v
						wantFault(t, encoded(v), r.e)
					}
				}
			}
		}
	}
}

// P9.4: the kind is looked at first, then all that shape asks, then fields, then what is left.
func TestOrderOfReading(t *testing.T) {
	for _, kind := range kinds {
		for i, s := range table[kind] {
			for _, r := range refusals(s) {
				v := laid(kind, i, r.v)
				if r.e != api.ErrPlain && kind != api.KTransfer {
					wantFault(t, append(encoded(v), 0x40), r.e)
				}
				wantFault(t, encoded(composite(kind, append(v.List[1].List, api.Value{})...)), api.ErrFields)
				wantFault(t, encoded(sample.Described(v.List[0], sample.Pairs(a, v))), api.ErrComposite)
				for j, other := range table[kind] {
					if j == i {
						continue
					}
					l := slices.Clone(v.List[1].List)
					l[j] = sample.Num(api.Char, 65)
					wantFault(t, encoded(composite(kind, l...)), api.ErrField)
					if other.must && other.has == "" {
						l[j] = api.Value{}
						wantFault(t, encoded(composite(kind, l...)), api.ErrMust)
					}
				}
			}
			wantFault(t, append(encoded(laid(kind, i, sample.Num(api.Char, 65))), 0x40), api.ErrField)
		}
		whole := encoded(composite(kind, lean(kind)...))
		for n := range whole {
			wantFault(t, whole[:n], api.ErrShort)
		}
	}
	wantFault(t, hex("00 53 19 45 40"), api.ErrPerform)
	wantFault(t, hex("00 53 24 c0 02 01 40 40"), api.ErrPerform) // a state with a field too many
}

// P9.4: codec's errors are handed on, without the places that it tells.
func TestReadOfBytesThatAreNoValue(t *testing.T) {
	for s, want := range map[string]api.Errno{
		"":                              api.ErrShort,
		"00":                            api.ErrShort,
		"00 53":                         api.ErrShort,
		"00 53 18":                      api.ErrShort,
		"00 53 18 c0 02 01":             api.ErrShort,
		"5f":                            api.ErrCode,
		"00 53 18 5f":                   api.ErrCode,
		"00 53 18 c0 00 00":             api.ErrSpan,
		"00 53 18 c0 03 01 40 40":       api.ErrSpan,
		"00 53 16 c0 03 02 43 56 02":    api.ErrSpan,
		"00 53 16 c0 04 02 43 56 02":    api.ErrForm,
		"00 53 16 c0 04 02 43 56 02 40": api.ErrForm,
		"00 53 10 c0 04 01 a1 01 ff":    api.ErrUtf,
		"00 a3 03 61 62 80 45":          api.ErrUtf,
		"00 53 10 c0 0b 06 a1 00 40 40 40 40 c1 02 01 40":          api.ErrKey,
		"00 53 10 c0 0d 06 a1 00 40 40 40 40 c1 05 04 40":          api.ErrShort,
		"00 53 10 c0 0e 06 a1 00 40 40 40 40 c1 05 04 40 40 40 40": api.ErrKey,
	} {
		wantFault(t, hex(s), want)
	}
	wantFault(t, slices.Concat(hex("00 53 18"), lists(31)), api.ErrField) // 32 deep
	wantFault(t, slices.Concat(hex("00 53 18"), lists(32)), api.ErrDeep)
}

// lists are the bytes of so many lists in one another.
func lists(n int) []byte {
	b := []byte{0x45}
	for range n - 1 {
		b = append([]byte{0xc0, byte(len(b) + 1), 1}, b...)
	}
	return b
}

// P9.4: values that are no performatives, kinds that are none.
func TestReadOfOtherValues(t *testing.T) {
	for _, v := range append(sample.Edges(), sample.List(), sample.List(sample.Num(api.Ulong, 24), sample.List()), sample.Pairs(), sample.Array(api.Symbol), sample.Described(sample.Num(api.Uint, 24), sample.List()), sample.Described(sample.Text(api.String, "longshore:close:list"), sample.List()), sample.Described(sample.Text(api.Symbol, "longshore:close"), sample.List()), sample.Described(composite(24), sample.List())) {
		wantFault(t, encoded(v), api.ErrPerform)
		wantFault(t, append(encoded(v), 0), api.ErrPerform)
	}
	for n := range 600 {
		for _, v := range []api.Value{composite(n), composite(n, api.Value{}), composite(n, a, a), sample.Described(sample.Num(api.Ulong, uint64(n)), sample.Pairs()), sample.Described(sample.Num(api.Ulong, uint64(n)), api.Value{})} {
			if !slices.Contains(kinds, n) {
				wantFault(t, encoded(v), api.ErrPerform)
			}
			wantReadAsModel(t, encoded(v))
		}
	}
	for _, kind := range kinds {
		wantFault(t, encoded(composite(kind|1<<32)), api.ErrPerform)
		for _, v := range []api.Value{{}, sample.Pairs(), sample.Array(api.Uint), a} {
			wantFault(t, encoded(sample.Described(sample.Num(api.Ulong, uint64(kind)), v)), api.ErrComposite)
		}
	}
}

// P9.4: bytes behind a performative are a transfer's payload, whatever they are, and refused behind any other.
func TestReadOfPayloads(t *testing.T) {
	payloads := [][]byte{{0}, {0x40}, {0xff}, hex("00 53 14 c0 02 01 43"), hex("00 53 75 a0 01 61"), bytes.Repeat([]byte{0x5f}, 100000)}
	for _, kind := range kinds {
		for _, p := range []api.Perform{modelBlank(kind), full(kind)} {
			b, _ := modelWrite(p)
			for _, payload := range payloads {
				if kind == api.KTransfer {
					wantRead(t, append(b[:len(b):len(b)], payload...), p, len(b))
				} else {
					wantFault(t, append(b[:len(b):len(b)], payload...), api.ErrPlain)
				}
			}
		}
	}
}

// P9.4: all forms that a value has on the wire say the same.
func TestReadOfLongForms(t *testing.T) {
	name := " 6c 6f 6e 67 73 68 6f 72 65 3a 63 6c 6f 73 65 3a 6c 69 73 74" // longshore:close:list
	for s, want := range map[string]api.Perform{
		"00 80 00 00 00 00 00 00 00 18 d0 00 00 00 04 00 00 00 00": perform.Blank(api.KClose),
		"00 53 18 c0 01 00":                                                 perform.Blank(api.KClose),
		"00 53 18 c0 02 01 40":                                              perform.Blank(api.KClose),
		"00 b3 00 00 00 14" + name + " 45":                                  perform.Blank(api.KClose),
		"00 a3 14" + name + " 45":                                           perform.Blank(api.KClose),
		"00 53 16 d0 00 00 00 0b 00 00 00 02 70 00 00 00 07 56 01":          blank(api.KDetach, func(p *api.Perform) { p.Handle, p.Closed = 7, true }),
		"00 53 16 c0 05 02 52 00 56 00":                                     perform.Blank(api.KDetach),
		"00 53 10 c0 11 04 b1 00 00 00 01 61 a1 00 70 ff ff ff ff 60 ff ff": blank(api.KOpen, func(p *api.Perform) { p.Id = "a" }),
		"00 53 14 c0 10 07 52 00 40 b0 00 00 00 01 74 40 56 01 56 00 40":    blank(api.KTransfer, func(p *api.Perform) { p.HasTag, p.Tag, p.HasSettled, p.Settled = true, "t", true, true }),
	} {
		wantRead(t, hex(s), want, len(hex(s)))
	}
}
