package message_test

import (
	"bytes"
	"encoding/binary"
	"math/rand"
	"slices"
	"strconv"
	"testing"

	"longshore/api"
	"longshore/codec"
	"longshore/message"
	"longshore/sample"
)

// chance makes messages and their bytes at random; one in so many of their parts is as it may not be.
type chance struct {
	*rand.Rand
	wrong int
}

func chances(seed int64, wrong int) chance { return chance{rand.New(rand.NewSource(seed)), wrong} }

func (c chance) amiss() bool { return c.wrong > 0 && c.Intn(c.wrong) == 0 }

func (c chance) so() bool { return c.Intn(2) == 0 }

func one[T any](c chance, l []T) T { return l[c.Intn(len(l))] }

var simple = append(sample.Edges(), symbol("a"))

// pairs are a map that may stand in a part, or now and then what may not.
func (c chance) pairs(part string) api.Value {
	if c.amiss() {
		if c.so() {
			return one(c, simple)
		}
		return one(c, badMaps(part)).v
	}
	if c.Intn(40) == 0 {
		return one(c, goodMaps(part))
	}
	v := sample.Pairs()
	for i := range c.Intn(6) {
		key, said := text(strconv.Itoa(i)), one(c, simple)
		if part != "App" {
			key, said = symbol(strconv.Itoa(i)), sample.MayBe(c.Intn, simple, 2)
			if c.so() {
				key = sample.Num(api.Ulong, uint64(i)<<c.Intn(60))
			}
		}
		if _, twice := findKey(v, key); !twice {
			v.List = append(v.List, key, said)
		}
	}
	return v
}

func findKey(m, key api.Value) (int, bool) {
	for i := 0; i < len(m.List); i += 2 {
		if sample.Same(m.List[i], key) {
			return i, true
		}
	}
	return 0, false
}

// message is one that has any parts.
func (c chance) message() api.Message {
	m := message.Blank()
	hasHeader, hasProperties := c.so(), c.so()
	for _, f := range fields {
		if !(hasHeader && f.path[0] == 'H' || hasProperties && f.path[0] == 'P') || c.so() {
			continue
		}
		l := f.good
		if len(f.bad) > 0 && c.amiss() {
			l = f.bad
		}
		m = with(m, f.path, one(c, l))
	}
	if hasHeader && !c.amiss() {
		m.Header.Has = true
	}
	for _, part := range parts {
		if c.so() {
			m = with(m, part, c.pairs(part))
		}
	}
	c.body(&m)
	return m
}

func (c chance) body(m *api.Message) {
	m.Body = 1 + c.Intn(3)
	if m.Data = nil; m.Body == api.BodyData || c.amiss() {
		for range 1 + c.Intn(3) {
			m.Data = append(m.Data, long(c.Intn(30)*c.Intn(30)))
		}
	}
	if m.Body == api.BodySequence || c.amiss() {
		for range 1 + c.Intn(3) {
			v := sample.List(sample.MayBe(c.Intn, simple, 2), sample.MayBe(c.Intn, simple, 2))
			if c.amiss() {
				v = sample.MayBe(c.Intn, simple, 2)
			}
			m.Sequences = append(m.Sequences, v)
		}
	}
	if m.Body == api.BodyValue || c.amiss() {
		m.Value = sample.MayBe(c.Intn, simple, 3)
	}
	if c.amiss() {
		m.Body = c.Intn(6) - 1
	}
}

// wire are a message's sections in any of the forms that say the same, and now and then others.
func (c chance) wire() [][]byte {
	var l [][]byte
	for _, v := range modelSections(chance{c.Rand, 0}.message()) {
		kind, inner := int(v.List[0].Num), v.List[1]
		if kind == 112 || kind == 115 {
			inner = c.padded(inner, map[int]int{112: 5, 115: 13}[kind])
		}
		if c.amiss() {
			inner = c.spoiled(inner)
		}
		v = section(kind, inner)
		if c.so() {
			v = byName(kind, inner)
		}
		if c.amiss() {
			v = section(one(c, []int{16, 112, 113, 114, 115, 116, 117, 118, 119, 120, 121}), inner)
		}
		l = append(l, c.bytes(v))
	}
	switch {
	case !c.amiss():
	case c.so():
		i, j := c.Intn(len(l)), c.Intn(len(l))
		l[i], l[j] = l[j], l[i]
	case c.so():
		l = slices.Delete(l, len(l)-1, len(l))
	default:
		at := c.Intn(len(l))
		l = slices.Insert(l, at, l[at])
	}
	return l
}

// padded is a composite's list with Nulls at the end.
func (c chance) padded(v api.Value, most int) api.Value {
	l := slices.Clone(v.List)
	for len(l) < most && c.Intn(4) > 0 {
		l = append(l, api.Value{})
	}
	return sample.List(l...)
}

// spoiled is a value with another one in its place, or in that of one of its parts.
func (c chance) spoiled(v api.Value) api.Value {
	if v.Kind != api.List && v.Kind != api.Map || len(v.List) == 0 || c.Intn(4) == 0 {
		return one(c, append(ofEachKind(), api.Value{}))
	}
	v.List = slices.Clone(v.List)
	at := c.Intn(len(v.List))
	if v.List[at] = one(c, simple); v.Kind == api.Map && at%2 == 0 {
		if i, _ := findKey(v, v.List[at]); i != at {
			v.List[at] = sample.Num(api.Dec32, uint64(c.Intn(1<<32)))
		}
	}
	return v
}

// bytes are a value's, each part in any of the forms that it has.
func (c chance) bytes(v api.Value) []byte {
	wide := c.so()
	switch {
	case v.Kind == api.Described:
		return slices.Concat([]byte{0}, c.bytes(v.List[0]), c.bytes(v.List[1]))
	case v.Kind == api.Bool && wide:
		return []byte{0x56, byte(v.Num)}
	case v.Kind == api.Uint && wide:
		return binary.BigEndian.AppendUint32([]byte{0x70}, uint32(v.Num))
	case v.Kind == api.Ulong && wide:
		return binary.BigEndian.AppendUint64([]byte{0x80}, v.Num)
	case v.Kind == api.Uint && v.Num == 0 && c.so():
		return []byte{0x52, 0}
	case wide && (v.Kind == api.Binary || v.Kind == api.String || v.Kind == api.Symbol):
		code := map[int]byte{api.Binary: 0xb0, api.String: 0xb1, api.Symbol: 0xb3}[v.Kind]
		return append(binary.BigEndian.AppendUint32([]byte{code}, uint32(len(v.Text))), v.Text...)
	case v.Kind == api.List || v.Kind == api.Map:
		return c.span(v, wide)
	}
	return encoded(v)
}

func (c chance) span(v api.Value, wide bool) []byte {
	codes := map[int][2]byte{api.List: {0xc0, 0xd0}, api.Map: {0xc1, 0xd1}}[v.Kind]
	var data []byte
	for _, part := range v.List {
		data = append(data, c.bytes(part)...)
	}
	n := len(v.List)
	if wide || len(data) > 254 || n > 255 {
		head := binary.BigEndian.AppendUint32([]byte{codes[1]}, uint32(len(data)+4))
		return append(binary.BigEndian.AppendUint32(head, uint32(n)), data...)
	}
	return append([]byte{codes[0], byte(len(data) + 1), byte(n)}, data...)
}

// P11.2: messages as they may be and with faults, against the second program.
func TestChancesOfEncode(t *testing.T) {
	for _, wrong := range []int{0, 60, 15, 4} {
		c := chances(int64(111+wrong), wrong)
		good := 0
		for range 800 {
			if wantAsModel(t, c.message()) == api.OK {
				good++
			}
			if t.Failed() {
				return
			}
		}
		if wrong == 0 && good != 800 || good < 30 || wrong > 0 && good > 780 {
			t.Errorf("of 800 that were made with one fault in %d, %d are good", wrong, good)
		}
	}
}

// P11.3 to P11.5: bytes as they may be and with faults, against the second program.
func TestChancesOfDecode(t *testing.T) {
	for _, wrong := range []int{0, 40, 10, 3} {
		c := chances(int64(121+wrong), wrong)
		good := 0
		for range 800 {
			if wantReadAsModel(t, slices.Concat(c.wire()...)) == api.OK {
				good++
			}
			if t.Failed() {
				return
			}
		}
		if wrong == 0 && good != 800 || good < 30 || wrong > 0 && good > 780 {
			t.Errorf("of 800 that were made with one fault in %d, %d are good", wrong, good)
		}
	}
}

// P11.3: bytes that were scribbled in, cut short and put together anyhow, against the second program.
func TestDecodeOfScribbledBytes(t *testing.T) {
	c := chances(131, 0)
	for range 4000 {
		b := slices.Concat(c.wire()...)
		if len(b) > 2000 {
			continue
		}
		for range 1 + c.Intn(3) {
			switch at := c.Intn(len(b) + 1); c.Intn(4) {
			case 0:
				b = b[:at]
			case 1:
				b = slices.Insert(b, at, byte(c.Intn(256)))
			default:
				if at < len(b) {
					b[at] = byte(c.Intn(256))
				}
			}
		}
		wantReadAsModel(t, b)
		if t.Failed() {
			return
		}
	}
}

// P11.3: rows of any sections, against the second program.
func TestDecodeOfRows(t *testing.T) {
	c := chances(132, 0)
	for range 5000 {
		var b []byte
		for range c.Intn(7) {
			b = append(b, leanSection(one(c, kinds))...)
		}
		wantReadAsModel(t, b)
		rising := make([]int, c.Intn(6))
		for i := range rising {
			rising[i] = one(c, kinds)
		}
		slices.Sort(rising)
		b = nil
		for _, kind := range rising {
			b = append(b, leanSection(kind)...)
		}
		wantReadAsModel(t, b)
		if t.Failed() {
			return
		}
	}
}

// P11.7, P0.2: what Encode wrote is read as it was; each section of it is in its shortest form.
func TestDecodeOfEncode(t *testing.T) {
	c := chances(141, 0)
	for range 800 {
		m := c.message()
		b, e := message.Encode(m)
		if e != api.OK || message.Check(m) != api.OK {
			t.Fatalf("Encode(%s): %d", brief(told(m)), e)
		}
		wantMessage(t, b, m)
		for at := 0; at < len(b); {
			_, next, _ := codec.Decode(b, at)
			if !codec.Shortest(b[at:next]) {
				t.Fatalf("%x is not as short as may be", b[at:next])
			}
			at = next
		}
		if t.Failed() {
			return
		}
	}
}

// P11.7: what Decode takes Check takes; Encode of it is no longer than what was read, and is read as the same.
func TestEncodeOfDecode(t *testing.T) {
	c := chances(142, 0)
	shorter := 0
	for range 800 {
		b := slices.Concat(c.wire()...)
		m, _, e := message.Decode(b)
		written, encoded := message.Encode(m)
		if checked := message.Check(m); e != api.OK || checked != api.OK || encoded != api.OK || len(written) > len(b) {
			t.Fatalf("%s: read %d, checked %d, written %d with %d bytes of %d", briefBytes(b), e, checked, encoded, len(written), len(b))
		}
		if len(written) < len(b) {
			shorter++
		}
		wantMessage(t, written, m)
		if t.Failed() {
			return
		}
	}
	if shorter < 400 {
		t.Errorf("%d of 800 were shorter when they were written", shorter)
	}
}

// P11.7: Again changes nothing but the header's Count and that there is a header, and leaves the bytes of the bare message.
func TestAgainLeavesTheRest(t *testing.T) {
	c := chances(143, 0)
	for range 800 {
		b := slices.Concat(c.wire()...)
		count, other := one(c, counts), 1+c.Intn(1<<20)
		m, _, _ := message.Decode(b)
		again, e := message.Again(b, count)
		if e != api.OK {
			t.Fatalf("Again(%s, %d): %d", briefBytes(b), count, e)
		}
		want := m
		want.Header.Has = m.Header.Has || count > 0
		want.Header.Count = count
		wantMessage(t, again, want)
		if !bytes.Equal(bare(b), bare(again)) {
			t.Fatalf("the bare message %x became %x", bare(b), bare(again))
		}
		third, e := message.Again(again, other)
		direct, directE := message.Again(b, other)
		if e != api.OK || directE != api.OK || !bytes.Equal(third, direct) {
			t.Fatalf("Again of Again: %x, %d; %x, %d", third, e, direct, directE)
		}
		if t.Failed() {
			return
		}
	}
}

// bare are the bytes of the bare message.
func bare(b []byte) []byte {
	from, to, e := message.Bare(b)
	if e != api.OK || from >= to {
		panic("no bare message")
	}
	return b[from:to]
}
