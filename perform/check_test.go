package perform_test

import (
	"math"
	"reflect"
	"slices"
	"testing"

	"longshore/api"
	"longshore/perform"
	"longshore/sample"
)

// P9.1: the blank performative of each kind, and the zero one of numbers that are none, 0 among them.
func TestBlank(t *testing.T) {
	l := []int{math.MinInt, math.MinInt + 16, math.MaxInt, 1<<32 + api.KOpen, 1<<16 + api.KClose, 1<<8 + api.KEnd, -api.KOpen}
	for n := -300; n < 600; n++ {
		l = append(l, n)
	}
	for _, n := range l {
		if p := perform.Blank(n); !alike(p, modelBlank(n)) {
			t.Errorf("Blank(%d): %s", n, told(p))
		}
	}
}

// P9.1: what a blank performative of each kind has that is not zero.
func TestBlanksWrittenOut(t *testing.T) {
	for _, p := range []api.Perform{
		{Kind: api.KOpen, MaxFrame: 4294967295, ChannelMax: 65535, Idle: -1},
		{Kind: api.KBegin, Remote: -1, HandleMax: 4294967295},
		{Kind: api.KAttach, SndMode: 2, InitialCount: -1},
		{Kind: api.KFlow, NextIn: -1, Handle: -1, Count: -1, Credit: -1, Available: -1},
		{Kind: api.KTransfer, DeliveryId: -1, Format: -1},
		{Kind: api.KDisposition, Last: -1},
		{Kind: api.KDetach},
		{Kind: api.KEnd},
		{Kind: api.KClose},
	} {
		if got := perform.Blank(p.Kind); !alike(got, p) {
			t.Errorf("Blank(%d): %s, want %s", p.Kind, told(got), told(p))
		}
		if !alike(modelBlank(p.Kind), p) {
			t.Errorf("the table's blank of %d: %s, want %s", p.Kind, told(modelBlank(p.Kind)), told(p))
		}
	}
}

// P9.7: Check takes a blank one of each kind; P9.3: its bytes.
func TestBlanksMayBe(t *testing.T) {
	for kind, want := range map[int]string{
		api.KOpen:        "00 53 10 c0 03 01 a1 00",
		api.KBegin:       "00 53 11 c0 05 04 40 43 43 43",
		api.KAttach:      "00 53 12 c0 05 03 a1 00 43 42",
		api.KFlow:        "00 53 13 c0 05 04 40 43 43 43",
		api.KTransfer:    "00 53 14 c0 02 01 43",
		api.KDisposition: "00 53 15 c0 03 02 42 43",
		api.KDetach:      "00 53 16 c0 02 01 43",
		api.KEnd:         "00 53 17 45",
		api.KClose:       "00 53 18 45",
	} {
		wantBytes(t, perform.Blank(kind), hex(want))
		wantRead(t, hex(want), perform.Blank(kind), len(hex(want)))
	}
}

// P9.2: numbers that are no performative's kind, also beside fields that are not zero.
func TestKinds(t *testing.T) {
	for n := -300; n < 600; n++ {
		p := modelBlank(n)
		p.Kind = n
		if slices.Contains(kinds, n) {
			wantAsModel(t, p)
			continue
		}
		wantError(t, p, api.ErrPerform)
		wantError(t, with(p, "Handle", 1), api.ErrPerform)
		wantError(t, with(p, "Fault", fullFault), api.ErrPerform)
	}
	for _, n := range []int{math.MinInt, math.MaxInt, 1<<32 + api.KClose, 1<<8 + api.KClose} {
		wantError(t, api.Perform{Kind: n}, api.ErrPerform)
	}
}

// P9.2: each field of each kind, with all that may stand in it and all that may not.
func TestEachField(t *testing.T) {
	for _, kind := range kinds {
		for _, s := range table[kind] {
			for _, x := range goods(s) {
				for _, p := range []api.Perform{modelBlank(kind), full(kind)} {
					if e := wantAsModel(t, having(p, s, x)); e != api.OK {
						t.Errorf("%s of %d may not be %v: %d", s.name, kind, x, e)
					}
				}
			}
			for _, w := range wrongs(s) {
				wantError(t, having(modelBlank(kind), s, w.x), w.e)
				wantError(t, having(full(kind), s, w.x), w.e)
			}
			if t.Failed() {
				return
			}
		}
	}
}

// P9.2: the bounds of each number, as the chapter's table has them.
func TestBounds(t *testing.T) {
	bounds := map[string][2]int{"MaxFrame": {512, 4294967295}, "ChannelMax": {0, 65535}, "Remote": {-1, 65535}, "SndMode": {0, 2}, "RcvMode": {0, 1}, "MaxMessage": {0, 9223372036854775807}}
	optional := []string{"Idle", "InitialCount", "NextIn", "Count", "Credit", "Available", "DeliveryId", "Format", "Last"}
	seen := 0
	for _, kind := range kinds {
		for _, s := range table[kind] {
			if s.most == 0 {
				continue
			}
			seen++
			b, is := bounds[s.name]
			if !is {
				b = [2]int{0, 4294967295}
			}
			if slices.Contains(optional, s.name) || kind == api.KFlow && s.name == "Handle" {
				b[0] = -1
			}
			for _, n := range []int{math.MinInt, b[0] - 1, b[0], b[0] + 1, b[1] - 1, b[1], b[1] + 1, math.MaxInt} {
				want := api.OK
				if n < b[0] || n > b[1] {
					want = api.ErrRange
				}
				if e := perform.Check(with(modelBlank(kind), s.name, n)); e != want {
					t.Errorf("Check of %d with %s %d: %d, want %d", kind, s.name, n, e, want)
				}
			}
		}
	}
	if seen != 3+5+5+8+3+2+1 {
		t.Errorf("the table has %d numbers", seen)
	}
}

// extras are what is not zero, by the name of the field.
func extras() map[string][]any {
	one := []any{1, -1, math.MinInt, math.MaxInt}
	text := []any{"a", "\x00", "\xff", long(65)}
	yes := []any{true}
	node := []any{fullSource, fullTarget, api.Terminus{Kind: -1}, api.Terminus{Kind: api.KCoordinator}, api.Terminus{Address: "a"}, api.Terminus{Durable: 1}, api.Terminus{Expiry: 1}, api.Terminus{Timeout: -1}, api.Terminus{Dynamic: true}, api.Terminus{Mode: 1}, api.Terminus{Filter: "f"}, api.Terminus{Default: api.State{Failed: true}}, api.Terminus{Outcomes: []string{""}}, api.Terminus{Caps: []string{""}}}
	return map[string][]any{
		"Id": text, "Host": text, "MaxFrame": one, "ChannelMax": one, "Idle": one,
		"Props":  {sample.Pairs(), a, sample.Num(api.Null, 1), sample.Text(api.Null, "a"), api.Value{Elem: 1}, api.Value{List: []api.Value{{}}}, sample.Num(99, 0), sample.Pairs(a)},
		"Remote": one, "NextIn": one, "InWin": one, "NextOut": one, "OutWin": one, "HandleMax": one,
		"Name": text, "Handle": one, "Receiver": yes, "SndMode": one, "RcvMode": one, "Source": node, "Target": node,
		"Unsettled":  {[]api.Unsettled{{}}, []api.Unsettled{{Tag: "a"}}, deliveries(2), deliveries(1025)},
		"Incomplete": yes, "InitialCount": one, "MaxMessage": one,
		"Count": one, "Credit": one, "Available": one, "Drain": yes, "Echo": yes,
		"DeliveryId": one, "HasTag": yes, "Tag": text, "Format": one, "Settled": yes, "HasSettled": yes, "More": yes, "Resume": yes, "Aborted": yes, "Batchable": yes,
		"State": {fullState, api.State{Kind: -1}, api.State{Section: 1}, api.State{Offset: 1}, api.State{Fault: api.Fault{Text: "x"}}, api.State{Failed: true}, api.State{Elsewhere: true}, api.State{Ann: sample.Num(api.Null, 1)}, api.State{Txn: "t"}, api.State{Inner: []api.State{{}}}},
		"First": one, "Last": one, "Closed": yes,
		"Fault": {fullFault, api.Fault{Cond: "x"}, api.Fault{Text: "x"}, api.Fault{Info: sample.Pairs()}, api.Fault{Info: sample.Num(api.Null, 1)}},
	}
}

// P9.2: each field for each kind that does not have it; it comes ahead of all that the kind has.
func TestFieldsThatAKindDoesNotHave(t *testing.T) {
	fields := reflect.TypeFor[api.Perform]().NumField()
	if len(extras()) != fields-1 {
		t.Fatalf("performatives have %d fields", fields)
	}
	for name, l := range extras() {
		for _, kind := range kinds {
			if slices.Contains(names(kind), name) {
				continue
			}
			for _, x := range l {
				wantError(t, with(modelBlank(kind), name, x), api.ErrPerform)
				wantError(t, with(full(kind), name, x), api.ErrPerform)
			}
			for _, s := range table[kind] {
				for _, w := range wrongs(s) {
					wantError(t, with(having(modelBlank(kind), s, w.x), name, l[0]), api.ErrPerform)
				}
			}
		}
		if t.Failed() {
			return
		}
	}
}

// P9.2: Tag and Settled of a transfer, with and without what says that they are there.
func TestWhatIsSaidOfATransfer(t *testing.T) {
	p := perform.Blank(api.KTransfer)
	for _, c := range []struct {
		hasTag              bool
		tag                 string
		hasSettled, settled bool
		want                string // the bytes behind the descriptor; none: ErrPerform
	}{
		{false, "", false, false, "c0 02 01 43"},
		{true, "", false, false, "c0 05 03 43 40 a0 00"},
		{true, "t", false, false, "c0 06 03 43 40 a0 01 74"},
		{false, "t", false, false, ""},
		{false, long(33), false, false, ""},
		{false, "", true, false, "c0 06 05 43 40 40 40 42"},
		{false, "", true, true, "c0 06 05 43 40 40 40 41"},
		{false, "", false, true, ""},
		{true, "t", false, true, ""},
		{true, long(33), false, true, ""},
		{false, "t", true, true, ""},
		{true, "t", true, true, "c0 08 05 43 40 a0 01 74 40 41"},
	} {
		p.HasTag, p.Tag, p.HasSettled, p.Settled = c.hasTag, c.tag, c.hasSettled, c.settled
		if c.want == "" {
			wantError(t, p, api.ErrPerform)
			continue
		}
		b := hex("00 53 14 " + c.want)
		wantBytes(t, p, b)
		wantRead(t, b, p, len(b))
	}
	p = perform.Blank(api.KTransfer)
	p.HasTag, p.Tag = true, long(33)
	wantError(t, p, api.ErrLong)
	p.Tag = long(32)
	wantAsModel(t, p)
}

// P9.2: a disposition's Settled stands by itself.
func TestSettledOfADisposition(t *testing.T) {
	p := perform.Blank(api.KDisposition)
	p.Settled = true
	wantBytes(t, p, hex("00 53 15 c0 05 04 42 43 40 41"))
	p.HasSettled = true
	wantError(t, p, api.ErrPerform)
	p.Settled = false
	wantError(t, p, api.ErrPerform)
}

// P9.2: of two fields that are amiss the first one counts, but one that makes the record too deep comes behind all others.
func TestWhichFieldComesFirst(t *testing.T) {
	for _, kind := range kinds {
		specs := table[kind]
		for i, s := range specs {
			for _, w := range wrongs(s) {
				deep := isDeepRecord(having(modelBlank(kind), s, w.x))
				for _, later := range specs[i+1:] {
					for _, v := range wrongs(later) {
						p := having(having(modelBlank(kind), s, w.x), later, v.x)
						want := w.e
						if deep {
							want = v.e
						}
						if e := perform.Check(p); e != want {
							t.Fatalf("Check(%s): %d, want %d", brief(told(p)), e, want)
						}
					}
				}
			}
		}
	}
}

// isDeepRecord tells whether nothing is amiss but that the record is too deep.
func isDeepRecord(p api.Perform) bool {
	for _, s := range table[p.Kind] {
		if _, e := modelField(p, s); e != api.OK {
			return false
		}
	}
	_, e := modelValue(p)
	return e == api.ErrDeep
}

// P9.2: a record that is too deep comes behind all fields.
func TestDeepRecordsComeLast(t *testing.T) {
	p := perform.Blank(api.KAttach)
	p.Source = api.Terminus{Kind: api.KSource, Default: api.State{Kind: api.KModified, Ann: nested(27)}}
	wantError(t, p, api.ErrDeep)
	wantError(t, with(p, "MaxMessage", -1), api.ErrRange)
	wantError(t, with(p, "Target", api.Terminus{Kind: api.KSource}), api.ErrField)
	wantError(t, with(p, "Unsettled", deliveries(1025)), api.ErrMap)
	wantError(t, with(p, "Props", a), api.ErrField)
	p.Source.Default.Ann = nested(29) // too deep by itself
	wantError(t, with(p, "Props", a), api.ErrDeep)
	wantError(t, with(p, "Handle", -1), api.ErrRange)
}

// P9.2: what is nested as deep as may be, and one deeper, wherever values stand.
func TestDepths(t *testing.T) {
	modified := func(deep int) api.State { return api.State{Kind: api.KModified, Ann: nested(deep)} }
	fault := func(deep int) api.Fault { return api.Fault{Cond: "x", Info: nested(deep)} }
	for _, c := range []struct {
		kind, most int
		turn       func(p *api.Perform, deep int)
	}{
		{api.KOpen, 30, func(p *api.Perform, deep int) { p.Props = nested(deep) }},
		{api.KBegin, 30, func(p *api.Perform, deep int) { p.Props = nested(deep) }},
		{api.KAttach, 30, func(p *api.Perform, deep int) { p.Props = nested(deep) }},
		{api.KFlow, 30, func(p *api.Perform, deep int) { p.Props = nested(deep) }},
		{api.KTransfer, 28, func(p *api.Perform, deep int) { p.State = modified(deep) }},
		{api.KTransfer, 26, func(p *api.Perform, deep int) { p.State = api.State{Kind: api.KRejected, Fault: fault(deep)} }},
		{api.KTransfer, 26, func(p *api.Perform, deep int) {
			p.State = api.State{Kind: api.KTransactional, Txn: "t", Inner: []api.State{modified(deep)}}
		}},
		{api.KDisposition, 28, func(p *api.Perform, deep int) { p.State = modified(deep) }},
		{api.KDetach, 28, func(p *api.Perform, deep int) { p.Fault = fault(deep) }},
		{api.KEnd, 28, func(p *api.Perform, deep int) { p.Fault = fault(deep) }},
		{api.KClose, 28, func(p *api.Perform, deep int) { p.Fault = fault(deep) }},
		{api.KAttach, 26, func(p *api.Perform, deep int) { p.Source = api.Terminus{Kind: api.KSource, Default: modified(deep)} }},
		{api.KAttach, 27, func(p *api.Perform, deep int) { p.Unsettled = []api.Unsettled{{Tag: "a"}, {State: modified(deep)}} }},
	} {
		for deep := 1; deep < 40; deep++ {
			p := perform.Blank(c.kind)
			c.turn(&p, deep)
			want := api.OK
			if deep > c.most {
				want = api.ErrDeep
				wantError(t, p, want)
			}
			if e := wantAsModel(t, p); e != want {
				t.Errorf("Check of %d with a map %d deep: %d", c.kind, deep, e)
			}
			if want == api.OK {
				b, _ := perform.Write(p)
				wantRead(t, b, p, len(b))
			}
		}
	}
}

// P9.2: deliveries that are not settled: none, one, 1024, 1025; their order is kept.
func TestUnsettled(t *testing.T) {
	p := perform.Blank(api.KAttach)
	for _, n := range []int{0, 1, 2, 255, 256, 1023, 1024, 1025, 5000} {
		p.Unsettled = deliveries(n)
		slices.Reverse(p.Unsettled)
		if n > 1024 {
			wantError(t, p, api.ErrMap)
			continue
		}
		wantAsModel(t, p)
		b, e := perform.Write(p)
		if e != api.OK {
			t.Errorf("Write with %d deliveries: %d", n, e)
		}
		wantRead(t, b, p, len(b))
	}
	p.Unsettled = []api.Unsettled{{Tag: "b", State: api.State{Kind: api.KAccepted}}, {Tag: "a"}}
	wantBytes(t, p, encoded(parse(`(ulong 18 ["" uint 0 false null null null null {binary "b": (ulong 36 []), binary "a": null}])`)))
}
