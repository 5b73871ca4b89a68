package message_test

import (
	"bytes"
	"math"
	"slices"
	"testing"

	"longshore/api"
	"longshore/message"
	"longshore/sample"
)

// lean is a value that may stand in a section of a kind.
func lean(kind int) api.Value {
	switch kind {
	case 112, 115, 118:
		return sample.List()
	case 117:
		return octets("hi")
	case 119:
		return api.Value{}
	}
	return sample.Pairs()
}

// leanSection is the bytes of such a section.
func leanSection(kind int) []byte { return encoded(section(kind, lean(kind))) }

// P11.3: bytes that codec.Decode refuses, each with its place, at the beginning and behind sections.
func TestDecodeOfWhatIsNoValue(t *testing.T) {
	for _, c := range []struct {
		b  string
		at int
		e  api.Errno
	}{
		{"00", 1, api.ErrShort}, {"00 53", 2, api.ErrShort}, {"00 53 75", 3, api.ErrShort}, {"00 53 75 a0", 4, api.ErrShort}, {"00 53 75 a0 02 68", 6, api.ErrShort},
		{"5f", 0, api.ErrCode}, {"00 5f", 1, api.ErrCode}, {"00 53 75 ff", 3, api.ErrCode}, {"00 53 77 56 02", 4, api.ErrForm}, {"00 53 77 73 00 00 d8 00", 4, api.ErrForm},
		{"00 53 77 c0 00 00", 4, api.ErrSpan}, {"00 53 77 c0 03 01 40 40", 4, api.ErrSpan}, {"00 53 77 a1 01 ff", 5, api.ErrUtf}, {"00 53 77 a3 02 61 80", 6, api.ErrUtf}, {"00 a3 01 ff 40", 3, api.ErrUtf},
		{"00 53 71 c1 02 01 40", 3, api.ErrKey}, {"00 53 71 c1 05 04 40 40 40 41", 3, api.ErrKey},
	} {
		wantFault(t, hex(c.b), c.at, c.e)
		for _, ahead := range []string{hi, "00 53 70 45 " + hi, hi + " " + hi} {
			wantFault(t, hex(ahead+" "+c.b), len(hex(ahead))+c.at, c.e)
		}
	}
	deep := encoded(sample.Within(31, sample.List()))
	wantFault(t, slices.Concat(hex("00 53 77"), deep), 2+len(deep), api.ErrDeep)
	wantFault(t, slices.Concat(hex(hi), hex("00 53 76"), deep), 7+2+len(deep), api.ErrDeep)
	wantMessage(t, slices.Concat(hex("00 53 77"), encoded(sample.Within(30, sample.List()))), turned(func(m *api.Message) {
		m.Body, m.Data, m.Value = api.BodyValue, nil, sample.Within(30, sample.List())
	}))
}

// P11.3, 1: values that are no section: of each kind, described by what is no section's, and by what is nearly one's.
func TestDecodeOfNoSections(t *testing.T) {
	l := append(ofEachKind(), api.Value{})
	for number := range 300 {
		if number < 112 || number > 120 {
			l = append(l, section(number, sample.List()), section(number, sample.Pairs()))
		}
	}
	for _, kind := range kinds {
		inner := lean(kind)
		l = append(l, inner, sample.List(section(kind, inner)), section(kind+256, inner), section(kind+1<<32, inner))
		for _, descriptor := range []api.Value{
			sample.Num(api.Uint, uint64(kind)), sample.Num(api.Ubyte, uint64(kind)), sample.Num(api.Long, uint64(kind)), text("longshore:" + words[kind]), octets("longshore:" + words[kind]), symbol(words[kind]), symbol("longshore:" + words[kind] + ":"), symbol("Longshore:" + words[kind]), sample.List(sample.Num(api.Ulong, uint64(kind))),
		} {
			l = append(l, sample.Described(descriptor, inner))
		}
	}
	for _, name := range []string{"open:list", "accepted:list", "source:list", "outcome:list", "data:list", "value:list", "header:map"} {
		l = append(l, sample.Described(symbol("longshore:"+name), sample.List()))
	}
	for _, v := range l {
		b := encoded(v)
		wantFault(t, b, 0, api.ErrSection)
		wantFault(t, append(hex(hi), b...), 7, api.ErrSection)
		wantFault(t, slices.Concat(b, hex("ff")), 0, api.ErrSection)
	}
}

// P11.3, 2: each pair of sections, each three of them, against the chapter's words.
func TestDecodeOfPairs(t *testing.T) {
	part := func(kind int) int { return slices.Index([]int{112, 113, 114, 115, 116, 0, 0, 0, 120}, kind) } // -1 of a body's
	for _, first := range kinds {
		for _, second := range kinds {
			want, at := api.OK, len(leanSection(first))
			isBody := part(first) < 0 && part(second) < 0
			switch {
			case first == 120:
				want, at = api.ErrBody, 0
			case isBody && first != second:
				want = api.ErrBody
			case first == second && first != 117 && first != 118:
				want = api.ErrSection
			case part(first) < 0 && second < 117, part(first) >= 0 && part(second) >= 0 && part(first) > part(second):
				want = api.ErrSection
			case second == 120 && part(first) >= 0:
				want = api.ErrBody
			case part(first) >= 0 && part(second) >= 0:
				want, at = api.ErrBody, -1
			}
			b := slices.Concat(leanSection(first), leanSection(second))
			if at < 0 {
				at = len(b)
			}
			if want != api.OK {
				wantFault(t, b, at, want)
			} else if _, _, e := message.Decode(b); e != api.OK {
				t.Errorf("%d, %d: %d", first, second, e)
			}
			wantReadAsModel(t, b)
			for _, third := range kinds {
				wantReadAsModel(t, slices.Concat(b, leanSection(third)))
				wantReadAsModel(t, slices.Concat(b, leanSection(third), leanSection(117)))
			}
		}
	}
}

// P11.3, 2: the order of sections is looked at ahead of what is in them, and behind whether they are any.
func TestOrderOfDecodeErrors(t *testing.T) {
	noMap := func(kind int) []byte { return encoded(section(kind, symbol("a"))) }
	for _, c := range []struct {
		what [][]byte
		at   int
		e    api.Errno
	}{
		{[][]byte{leanSection(117), noMap(112)}, 7, api.ErrSection},
		{[][]byte{leanSection(117), encoded(section(112, sample.List(symbol("a"))))}, 7, api.ErrSection},
		{[][]byte{leanSection(117), noMap(119)}, 7, api.ErrBody},
		{[][]byte{leanSection(118), noMap(117)}, 4, api.ErrBody},
		{[][]byte{leanSection(112), noMap(112)}, 4, api.ErrSection},
		{[][]byte{leanSection(112), encoded(section(112, sample.List(symbol("a"))))}, 4, api.ErrSection},
		{[][]byte{leanSection(115), encoded(section(115, sample.List(symbol("a"))))}, 4, api.ErrSection},
		{[][]byte{noMap(120)}, 0, api.ErrBody},
		{[][]byte{encoded(section(120, sample.Pairs(text("a"), text("a"))))}, 0, api.ErrBody},
		{[][]byte{leanSection(112), noMap(120)}, 4, api.ErrBody},
		{[][]byte{leanSection(117), encoded(section(16, symbol("a")))}, 7, api.ErrSection},
		{[][]byte{leanSection(117), leanSection(120), leanSection(117)}, 13, api.ErrSection},
		{[][]byte{leanSection(117), leanSection(120), leanSection(118)}, 13, api.ErrSection},
		{[][]byte{leanSection(117), leanSection(120), leanSection(120)}, 13, api.ErrSection},
		{[][]byte{leanSection(117), leanSection(117), leanSection(119)}, 14, api.ErrBody},
		{[][]byte{leanSection(116), leanSection(120)}, 6, api.ErrBody},
		{[][]byte{noMap(117), hex("ff")}, 0, api.ErrSection},
		{[][]byte{noMap(112), leanSection(112), hex("ff")}, 0, api.ErrComposite},
		{[][]byte{leanSection(112), hex("ff")}, 4, api.ErrCode},
		{[][]byte{leanSection(112)}, 4, api.ErrBody},
		{[][]byte{leanSection(112), leanSection(113), leanSection(114), leanSection(115), leanSection(116)}, 26, api.ErrBody},
	} {
		wantFault(t, slices.Concat(c.what...), c.at, c.e)
	}
}

// P11.3, 3: headers and properties that shape.Unpack refuses.
func TestDecodeOfNoComposites(t *testing.T) {
	behind := slices.Concat(leanSection(117), leanSection(120))
	for _, c := range []struct {
		note string
		e    api.Errno
	}{
		{`(ulong 112 {})`, api.ErrComposite}, {`(ulong 112 null)`, api.ErrComposite}, {`(ulong 112 true)`, api.ErrComposite}, {`(ulong 112 array uint [])`, api.ErrComposite},
		{`(ulong 112 [null null null null null null])`, api.ErrFields}, {`(ulong 112 [uint 1 null null null null null])`, api.ErrFields},
		{`(ulong 112 [uint 1])`, api.ErrField}, {`(ulong 112 [null uint 1])`, api.ErrField}, {`(ulong 112 [null null ubyte 1])`, api.ErrField}, {`(ulong 112 [null null ulong 1])`, api.ErrField}, {`(ulong 112 [null null null "a"])`, api.ErrField}, {`(ulong 112 [null null null null true])`, api.ErrField},
		{`(ulong 115 {})`, api.ErrComposite}, {`(ulong 115 "a")`, api.ErrComposite}, {`(ulong 115 [null null null null null null null null null null null null null null])`, api.ErrFields}, {`(ulong 115 [uint 1 null null null null null null null null null null null null null])`, api.ErrFields},
		{`(ulong 115 [null "a"])`, api.ErrField}, {`(ulong 115 [null null binary "a"])`, api.ErrField}, {`(ulong 115 [null null null symbol "a"])`, api.ErrField}, {`(ulong 115 [null null null null uint 1])`, api.ErrField}, {`(ulong 115 [null null null null null null "a"])`, api.ErrField}, {`(ulong 115 [null null null null null null null "a"])`, api.ErrField}, {`(ulong 115 [null null null null null null null null uint 1])`, api.ErrField}, {`(ulong 115 [null null null null null null null null null long 1])`, api.ErrField}, {`(ulong 115 [null null null null null null null null null null true])`, api.ErrField}, {`(ulong 115 [null null null null null null null null null null null ulong 1])`, api.ErrField}, {`(ulong 115 [null null null null null null null null null null null null symbol "a"])`, api.ErrField},
		{`(ulong 115 [uint 1 "a"])`, api.ErrField}, {`(ulong 115 [uint 1 null null null null null null null time -1 time -1 null true])`, api.ErrField},
		{`(ulong 115 [uint 1])`, api.ErrProps}, {`(ulong 115 [[]])`, api.ErrProps}, {`(ulong 115 [null null null null null symbol "a"])`, api.ErrProps}, {`(ulong 115 [null null null null null null null null time -1])`, api.ErrProps}, {`(ulong 115 [null null null null null null null null null time -1])`, api.ErrProps},
	} {
		b := encoded(parse(c.note))
		wantFault(t, b, 0, c.e)
		wantFault(t, append(b, behind...), 0, c.e)
		wantReadAsModel(t, slices.Concat(leanSection(112), leanSection(113), b, behind))
	}
}

// P11.3, 3: each field of the properties on the wire, with what may stand there and what may not.
func TestDecodeOfProperties(t *testing.T) {
	at := func(i int, v api.Value) []byte {
		l := make([]api.Value, i+1)
		l[i] = v
		return append(encoded(section(115, sample.List(l...))), leanSection(117)...)
	}
	for i, f := range propertiesFields {
		for _, c := range fields {
			if c.path != "Properties."+f.name {
				continue
			}
			for _, x := range c.good {
				if v, is := onWire(f, x); is {
					wantMessage(t, at(i, v), with(plain(), c.path, x))
				}
			}
			for _, x := range c.bad {
				if v, is := onWire(f, x); is {
					wantFault(t, at(i, v), 0, api.ErrProps)
					wantFault(t, append(leanSection(112), at(i, v)...), 4, api.ErrProps)
				}
			}
		}
	}
	for _, i := range []int{8, 9} {
		for _, n := range []int64{-1, -2, math.MinInt64, 1<<50 + 1, math.MaxInt64, -1 << 50} {
			wantFault(t, at(i, sample.Signed(api.Time, n)), 0, api.ErrProps)
		}
	}
}

// onWire is what a field says as a value, if there is such a value.
func onWire(f fieldOf, x any) (api.Value, bool) {
	v := api.Value{Kind: f.kind}
	switch x := x.(type) {
	case int:
		v.Num = uint64(x)
		if f.kind == api.Uint && !within(x, 0, 1<<32-1) || x == -1 {
			return api.Value{}, false
		}
	case string:
		v.Text = x
	case api.Value:
		v = x
	}
	return v, mayBe(v)
}

// mayBe tells whether codec writes a value, and reads it again.
func mayBe(v api.Value) bool {
	m := turned(func(m *api.Message) { m.Body, m.Data, m.Value = api.BodyValue, nil, v })
	_, e := modelEncode(m)
	return e == api.OK
}

// P11.3: each field of the header on the wire.
func TestDecodeOfHeaders(t *testing.T) {
	for i, f := range headerFields {
		for _, n := range []uint64{0, 1, 4, 255, 256, 1<<32 - 1} {
			v := sample.Num(f.kind, n)
			if !mayBe(v) {
				continue
			}
			l := make([]api.Value, i+1)
			l[i] = v
			var x any = int(n)
			if f.kind == api.Bool {
				x = n == 1
			}
			wantMessage(t, encoded(section(112, sample.List(l...)), section(117, octets("hi"))), with(plain(), "Header."+f.name, x))
		}
	}
}

// P11.3, 3: sections whose value is not of the kind that it must be, and maps with keys and values that may not be.
func TestDecodeOfOtherKinds(t *testing.T) {
	must := map[int]int{113: api.Map, 114: api.Map, 116: api.Map, 117: api.Binary, 118: api.List, 120: api.Map}
	for kind, want := range must {
		ahead := []byte{}
		if kind == 120 {
			ahead = leanSection(117)
		}
		for _, v := range append(ofEachKind(), api.Value{}) {
			b := slices.Concat(ahead, encoded(section(kind, v)))
			if v.Kind != want {
				wantFault(t, b, len(ahead), api.ErrSection)
			}
			wantReadAsModel(t, b)
			wantReadAsModel(t, append(b, leanSection(117)...))
		}
	}
	for _, v := range append(ofEachKind(), api.Value{}) {
		wantMessage(t, encoded(section(119, v)), turned(func(m *api.Message) { m.Body, m.Data, m.Value = api.BodyValue, nil, v }))
	}
	for part, kind := range map[string]int{"DelAnn": 113, "MsgAnn": 114, "App": 116, "Footer": 120} {
		ahead, behind := []byte{}, hex(hi)
		if kind == 120 {
			ahead, behind = behind, ahead
		}
		for _, v := range goodMaps(part) {
			if v.Kind == api.Map {
				wantMessage(t, slices.Concat(ahead, encoded(section(kind, v)), behind), with(plain(), part, v))
			}
		}
		for _, w := range badMaps(part) {
			if w.e == api.ErrProps && w.v.Kind == api.Map {
				wantFault(t, slices.Concat(ahead, encoded(section(kind, w.v)), behind), len(ahead), api.ErrProps)
			}
		}
	}
}

// P11.3: what stands in the sections comes into the parts, however many of them there are.
func TestDecodeOfWholes(t *testing.T) {
	all := full()
	wantBytes(t, all, encoded(modelSections(all)...))
	for _, part := range []string{"Header", "DelAnn", "MsgAnn", "Properties", "App", "Footer"} {
		m := all
		switch part {
		case "Header":
			m.Header = noHeader
		case "Properties":
			m.Properties = noProperties
		default:
			m = with(m, part, api.Value{})
		}
		wantBytes(t, m, encoded(modelSections(m)...))
	}
	wantBytes(t, turned(func(m *api.Message) { m.Data = []string{"", "a", "", "\xff", "a"} }), slices.Concat(hex("00 53 75 a0 00 00 53 75 a0 01 61 00 53 75 a0 00 00 53 75 a0 01 ff 00 53 75 a0 01 61")))
	wantMessage(t, hex("00 53 70 45 00 53 71 c1 01 00 00 53 72 c1 01 00 00 53 73 45 00 53 74 c1 01 00 00 53 77 40 00 53 78 c1 01 00"), api.Message{
		Header: api.Header{Has: true, Priority: 4, Ttl: -1}, DelAnn: sample.Pairs(), MsgAnn: sample.Pairs(), Properties: api.Properties{Has: true, Expiry: -1, Created: -1, Sequence: -1}, App: sample.Pairs(), Body: api.BodyValue, Footer: sample.Pairs(),
	})
}

// P11.3: the same in other forms: by name, with Nulls and Defaults written out, with longer constructors.
func TestDecodeOfOtherForms(t *testing.T) {
	h := turned(func(m *api.Message) { m.Header.Has = true })
	for _, s := range []string{
		"00 53 70 45", "00 53 70 c0 01 00", "00 53 70 c0 02 01 40", "00 53 70 c0 02 01 42", "00 53 70 c0 03 01 56 00", "00 53 70 c0 06 05 40 40 40 40 40", "00 53 70 c0 07 05 42 50 04 40 42 43", "00 53 70 d0 00 00 00 0e 00 00 00 05 42 50 04 40 42 70 00 00 00 00", "00 80 00 00 00 00 00 00 00 70 d0 00 00 00 04 00 00 00 00", "00 53 70 c0 07 05 40 40 40 40 52 00",
	} {
		wantMessage(t, hex(s+" "+hi), h)
	}
	for _, s := range []string{"00 53 75 a0 02 68 69", "00 53 75 b0 00 00 00 02 68 69", "00 80 00 00 00 00 00 00 00 75 a0 02 68 69", "00 80 00 00 00 00 00 00 00 75 b0 00 00 00 02 68 69"} {
		wantMessage(t, hex(s), plain())
	}
	for _, kind := range kinds {
		ahead, behind := []byte{}, []byte{}
		if kind < 117 {
			behind = hex(hi)
		} else if kind == 120 {
			ahead = hex(hi)
		}
		want, _, _ := message.Decode(slices.Concat(ahead, leanSection(kind), behind))
		wantMessage(t, slices.Concat(ahead, encoded(byName(kind, lean(kind))), behind), want)
		wantMessage(t, slices.Concat(ahead, hex("00 80 00 00 00 00 00 00 00"), []byte{byte(kind)}, encoded(lean(kind)), behind), want)
		wantMessage(t, slices.Concat(ahead, hex("00 b3 00 00 00"), []byte{byte(len("longshore:") + len(words[kind]))}, []byte("longshore:"+words[kind]), encoded(lean(kind)), behind), want)
	}
	empty := said(func(*api.Properties) {})
	for _, s := range []string{`[]`, `[null]`, `[null null null null null null null null null null null null null]`, `[null binary "" "" "" "" null symbol "" symbol "" null null "" null ""]`} {
		wantMessage(t, append(encoded(section(115, parse(s))), hex(hi)...), empty)
	}
}

// P11.3: bytes of MaxMessage are taken, and of one more refused, whatever they are.
func TestDecodeOfLengths(t *testing.T) {
	for _, m := range greatest(0) {
		b, _ := modelEncode(m)
		wantMessage(t, b, m)
		wantFault(t, append(b, 0x40), 0, api.ErrLong)
	}
	for _, m := range greatest(1)[1:3] {
		b := encoded(modelSections(m)...)
		if len(b) != 1048577 {
			t.Errorf("%d bytes", len(b))
		}
		wantFault(t, b, 0, api.ErrLong)
	}
	wantFault(t, make([]byte, 1048576), 32, api.ErrDeep)
	wantFault(t, make([]byte, 1048577), 0, api.ErrLong)
	wantFault(t, bytes.Repeat([]byte{0xff}, 1048577), 0, api.ErrLong)
	wantFault(t, bytes.Repeat([]byte{0xff}, 1048576), 0, api.ErrCode)
	wantFault(t, bytes.Repeat([]byte{0x40}, 1<<24), 0, api.ErrLong)
}
