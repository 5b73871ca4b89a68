package perform_test

import (
	"bytes"
	"encoding/binary"
	"maps"
	"math/rand"
	"slices"
	"strconv"
	"strings"
	"testing"

	"longshore/api"
	"longshore/frame"
	"longshore/perform"
	"longshore/sample"
	"longshore/stream"
)

// chance makes performatives and their bytes at random; one in so many of their fields is as it may not be.
type chance struct {
	*rand.Rand
	wrong int
}

func chances(seed int64, wrong int) chance { return chance{rand.New(rand.NewSource(seed)), wrong} }

func (c chance) amiss() bool { return c.wrong > 0 && c.Intn(c.wrong) == 0 }

func (c chance) so() bool { return c.Intn(2) == 0 }

func (c chance) kind() int { return kinds[c.Intn(len(kinds))] }

func one[T any](c chance, l []T) T { return l[c.Intn(len(l))] }

// perform is a performative of a kind in which any fields are said.
func (c chance) perform(kind int) api.Perform {
	p := modelBlank(kind)
	for _, s := range table[kind] {
		if c.Intn(3) > 0 {
			p = having(p, s, c.said(s))
		}
	}
	if c.amiss() {
		name := one(c, slices.Sorted(maps.Keys(more)))
		p = with(p, name, one(c, more[name]))
	}
	return p
}

// What is made once, as it takes long: what is not zero in a field, what may stand in one on the wire.
var (
	more   = extras()
	onWire = allWires()
)

func allWires() map[spec][]wired {
	m := map[spec][]wired{}
	for _, kind := range kinds {
		for _, s := range table[kind] {
			m[s] = wires(s)
		}
	}
	return m
}

// said is what a field says.
func (c chance) said(s spec) any {
	if l := wrongs(s); len(l) > 0 && c.amiss() {
		return one(c, l).x
	}
	switch s.name {
	case "Props":
		if v := sample.MayBe(c.Intn, simple, 3); v.Kind == api.Map {
			return v
		}
	case "Unsettled":
		if c.Intn(50) > 0 {
			return c.unsettled()
		}
	}
	l := goods(s)
	if n := len(l); s.name == "Props" && c.Intn(50) > 0 {
		l = l[:n-1] // the last one takes long
	}
	return one(c, l)
}

var simple = append(sample.Edges(), a)

func (c chance) unsettled() []api.Unsettled {
	var l []api.Unsettled
	for i := range c.Intn(5) {
		u := api.Unsettled{Tag: strings.Repeat(strconv.Itoa(9-i), c.Intn(33)+i/4)}
		if c.so() {
			u.State = one(c, goodStates).(api.State)
		}
		if !slices.ContainsFunc(l, func(o api.Unsettled) bool { return o.Tag == u.Tag }) && len(u.Tag) <= 32 || c.amiss() {
			l = append(l, u)
		}
	}
	return l
}

// wire is a composite of a kind in any of the forms that say the same.
func (c chance) wire(kind int) api.Value {
	l := lean(kind)
	for i, s := range table[kind] {
		switch {
		case c.amiss() && c.so():
			l[i] = one(c, simple)
		case c.amiss() && len(refusals(s)) > 0:
			l[i] = one(c, refusals(s)).v
		case c.amiss():
			l[i] = api.Value{}
		case c.Intn(3) > 0:
			l[i] = c.loose(s)
		}
	}
	for len(l) > 0 && l[len(l)-1].Kind == api.Null && c.so() {
		l = l[:len(l)-1]
	}
	if c.amiss() && c.so() {
		l = append(l, api.Value{})[:c.Intn(len(l)+2)]
	}
	if c.so() {
		return byName(kind, l...)
	}
	return composite(kind, l...)
}

// loose is what may stand in a field, said in one way or another.
func (c chance) loose(s spec) api.Value {
	if x := c.said(s); c.so() && c.wrong == 0 {
		if n, is := x.(int); !is || n >= 0 {
			v, _ := modelOf(s, x)
			return v
		}
	}
	l := onWire[s]
	if s.name == "Props" && c.Intn(50) > 0 {
		l = l[:len(l)-1] // the last one takes long
	}
	return one(c, l).v
}

// bytes are a value's, each part in any of the forms that it has.
func (c chance) bytes(v api.Value) []byte {
	wide := c.so()
	switch {
	case v.Kind == api.Described:
		return slices.Concat([]byte{0}, c.bytes(v.List[0]), c.bytes(v.List[1]))
	case v.Kind == api.Bool && wide:
		return []byte{0x56, byte(v.Num)}
	case v.Kind == api.Uint && wide:
		return binary.BigEndian.AppendUint32([]byte{0x70}, uint32(v.Num))
	case v.Kind == api.Ulong && wide:
		return binary.BigEndian.AppendUint64([]byte{0x80}, v.Num)
	case v.Kind == api.Uint && v.Num == 0 && c.so():
		return []byte{0x52, 0}
	case wide && (v.Kind == api.Binary || v.Kind == api.String || v.Kind == api.Symbol):
		return text(map[int]byte{api.Binary: 0xb0, api.String: 0xb1, api.Symbol: 0xb3}[v.Kind], v.Text)
	case v.Kind == api.List || v.Kind == api.Map:
		return c.span(v, wide)
	}
	return encoded(v)
}

func (c chance) span(v api.Value, wide bool) []byte {
	codes := map[int][2]byte{api.List: {0xc0, 0xd0}, api.Map: {0xc1, 0xd1}}[v.Kind]
	var l [][]byte
	for _, part := range v.List {
		l = append(l, c.bytes(part))
	}
	data := slices.Concat(l...)
	if wide || len(data) > 254 || len(l) > 255 {
		return span(codes[1], len(l), data)
	}
	return append([]byte{codes[0], byte(len(data) + 1), byte(len(l))}, data...)
}

// P9.2, P9.3: performatives as they may be and with faults, against the second program.
func TestChancesOfWrite(t *testing.T) {
	for _, wrong := range []int{0, 60, 15, 4} {
		c := chances(int64(121+wrong), wrong)
		good := 0
		for range 3000 {
			if wantAsModel(t, c.perform(c.kind())) == api.OK {
				good++
			}
			if t.Failed() {
				return
			}
		}
		if wrong == 0 && good != 3000 || good < 300 {
			t.Errorf("of 3000 that were made with one fault in %d, %d are good", wrong, good)
		}
	}
}

// P9.4: bytes as they may be and with faults, against the second program.
func TestChancesOfRead(t *testing.T) {
	for _, wrong := range []int{0, 60, 15, 4} {
		c := chances(int64(131+wrong), wrong)
		good := 0
		for range 3000 {
			b := c.bytes(c.wire(c.kind()))
			if c.amiss() {
				b = append(b, 0x40)
			}
			if wantReadAsModel(t, b) == api.OK {
				good++
			}
			if t.Failed() {
				return
			}
		}
		if wrong == 0 && good != 3000 || good < 300 {
			t.Errorf("of 3000 that were made with one fault in %d, %d are good", wrong, good)
		}
	}
}

// P9.4: bytes that were scribbled in, cut short and put together anyhow, against the second program.
func TestReadOfScribbledBytes(t *testing.T) {
	c := chances(141, 0)
	for range 20000 {
		b := c.bytes(c.wire(c.kind()))
		if len(b) > 4096 {
			continue
		}
		for range 1 + c.Intn(3) {
			switch at := c.Intn(len(b) + 1); c.Intn(4) {
			case 0:
				b = b[:at]
			case 1:
				b = slices.Insert(b, at, byte(c.Intn(256)))
			default:
				if at < len(b) {
					b[at] = byte(c.Intn(256))
				}
			}
		}
		wantReadAsModel(t, b)
		if t.Failed() {
			return
		}
	}
}

// P9.6: what Write wrote is read as it was, and how many bytes it wrote; of a transfer with any payload behind.
func TestReadOfWrite(t *testing.T) {
	c := chances(142, 0)
	for range 4000 {
		p := c.perform(c.kind())
		b, e := perform.Write(p)
		if e != api.OK {
			t.Fatalf("Write(%s): %d", brief(told(p)), e)
		}
		wrote := len(b)
		if p.Kind == api.KTransfer {
			b = append(b, c.payload()...)
		}
		wantRead(t, b, p, wrote)
		if q, _, _ := perform.Read(b); !perform.Same(p, q) || !perform.Same(q, p) {
			t.Fatalf("%s, written and read, is not the same", brief(told(p)))
		}
		if t.Failed() {
			return
		}
	}
}

func (c chance) payload() []byte {
	b := make([]byte, c.Intn(40)*c.Intn(40))
	c.Read(b)
	return b
}

// P9.6: where Read takes bytes Check takes what it tells, and Write of that is read as the same.
func TestWriteOfRead(t *testing.T) {
	c := chances(143, 0)
	for range 4000 {
		body := c.bytes(c.wire(c.kind()))
		p, at, e := perform.Read(body)
		if e != api.OK || at != len(body) {
			t.Fatalf("Read(%x): %d, %d", body, at, e)
		}
		b, written := perform.Write(p)
		if e := perform.Check(p); e != api.OK || written != api.OK {
			t.Fatalf("Check and Write of what was read of %x: %d, %d", body, e, written)
		}
		wantRead(t, b, p, len(b))
		if q, _, _ := perform.Read(b); !perform.Same(p, q) {
			t.Fatalf("%x, read, written and read, is not the same", body)
		}
		if t.Failed() {
			return
		}
	}
}

// P9.6: a lone Symbol that stood for an Array takes three bytes more when it is written.
func TestLoneSymbols(t *testing.T) {
	for _, c := range []struct {
		at, more int
		lone     string
	}{
		{5, 3, `(ulong 40 [null null null null null null null null null symbol "a"])`},
		{5, 6, `(ulong 40 [null null null null null null null null symbol "longshore:accepted:list" symbol "a"])`},
		{6, 3, `(ulong 48 [symbol "a"])`},
	} {
		l := lean(api.KAttach)
		l[c.at] = parse(c.lone)
		room := 1048576 - len(attachBytes(l, 0))
		for less := range 10 {
			body := attachBytes(l, room-less)
			p, at, e := perform.Read(body)
			if e != api.OK || at != 1048576-less || perform.Check(p) != api.OK {
				t.Fatalf("Read of %d bytes with a lone Symbol: %d, %d", len(body), at, e)
			}
			b, e := perform.Write(p)
			if less < c.more {
				if e != api.ErrLong || len(b) != 0 {
					t.Errorf("Write of what was read of %d bytes: %d bytes, %d, want ErrLong", len(body), len(b), e)
				}
				continue
			}
			if e != api.OK || len(b) != len(body)+c.more {
				t.Errorf("Write of what was read of %d bytes: %d bytes, %d", len(body), len(b), e)
			}
			wantRead(t, b, p, len(b))
		}
	}
	b := encoded(parse(`(ulong 18 ["l" uint 0 false null null null (ulong 48 [symbol "a"])])`))
	p := blank(api.KAttach, func(p *api.Perform) {
		p.Name, p.Target = "l", api.Terminus{Kind: api.KCoordinator, Caps: []string{"a"}}
	})
	wantRead(t, b, p, len(b))
	wantBytes(t, p, encoded(parse(`(ulong 18 ["l" uint 0 false null null null (ulong 48 [array symbol [symbol "a"]])])`)))
}

// attachBytes are an attach's with these fields but the last one, which is a Map with a Binary of n bytes.
func attachBytes(l []api.Value, n int) []byte {
	var parts [][]byte
	for _, v := range l[:len(l)-1] {
		parts = append(parts, encoded(v))
	}
	parts = append(parts, span(0xd1, 2, hex("a3 01 6b"), text(0xb0, strings.Repeat("\xff", n))))
	return slices.Concat(hex("00 53 12"), span(0xd0, len(parts), parts...))
}

// sent is a performative with its payload, on a channel.
type sent struct {
	channel int
	p       api.Perform
	payload []byte
}

// P0.1, P0.2: performatives with payloads, written, sealed in frames, cut anywhere and taken by a stream, are just these when they are read again.
func TestOverAStream(t *testing.T) {
	c := chances(144, 0)
	for range 60 {
		var all []sent
		wire, _ := frame.Header(api.ProtoMain)
		for range 1 + c.Intn(8) {
			s := sent{c.Intn(65536), c.perform(c.kind()), nil}
			if s.p.Kind == api.KTransfer {
				s.payload = c.payload()
			}
			wire = append(wire, sealed(t, s)...)
			all = append(all, s)
		}
		for _, most := range []int{1, 3, 100, 5000, len(wire)} {
			if most < 3 && len(wire) > 20000 {
				continue
			}
			wantSent(t, taken(t, c, wire, most), all)
		}
		if t.Failed() {
			return
		}
	}
}

func sealed(t *testing.T, s sent) []byte {
	t.Helper()
	b, e := perform.Write(s.p)
	if e != api.OK {
		t.Fatalf("Write(%s): %d", brief(told(s.p)), e)
	}
	f, e := frame.Seal(api.Frame{Type: api.FrameMain, Channel: s.channel, Body: append(b, s.payload...)})
	if e != api.OK {
		t.Fatalf("Seal: %d", e)
	}
	return f
}

// taken is what is read again of bytes that come in pieces of at most so many, some of them empty.
func taken(t *testing.T, c chance, wire []byte, most int) []sent {
	t.Helper()
	var l []sent
	s := stream.New(api.MaxFrame)
	for len(wire) > 0 {
		n := min(c.Intn(most+1), len(wire))
		for item := range s.All(wire[:n]) {
			if item.Kind != api.ItemFrame {
				continue
			}
			p, at, e := perform.Read(item.Frame.Body)
			if e != api.OK {
				t.Fatalf("Read of what a stream gave: %d", e)
			}
			l = append(l, sent{item.Frame.Channel, p, item.Frame.Body[at:]})
		}
		wire = wire[n:]
	}
	if st := s.State(); st.Err != api.OK || st.Held != 0 {
		t.Errorf("the stream stands at %v", st)
	}
	return l
}

func wantSent(t *testing.T, got, want []sent) {
	t.Helper()
	if len(got) != len(want) {
		t.Fatalf("%d performatives came, want %d", len(got), len(want))
	}
	for i, w := range want {
		g := got[i]
		if g.channel != w.channel || !perform.Same(g.p, w.p) || !alike(g.p, w.p) || !bytes.Equal(g.payload, w.payload) {
			t.Errorf("%s with %d bytes came as %s with %d", brief(told(w.p)), len(w.payload), brief(told(g.p)), len(g.payload))
		}
	}
}

// P0.1, P0.2: one performative of each kind, cut at each place.
func TestCutAtEachPlace(t *testing.T) {
	header, _ := frame.Header(api.ProtoMain)
	for _, kind := range kinds {
		for _, p := range []api.Perform{modelBlank(kind), full(kind)} {
			s := sent{7, p, nil}
			if kind == api.KTransfer {
				s.payload = []byte("payload")
			}
			wire := slices.Concat(header, sealed(t, s))
			for cut := range wire {
				l := stream.New(api.MinFrame)
				items := slices.Concat(slices.Collect(l.All(wire[:cut])), slices.Collect(l.All(wire[cut:])))
				if len(items) != 2 {
					t.Fatalf("%d items came, cut at %d", len(items), cut)
				}
				q, at, e := perform.Read(items[1].Frame.Body)
				if e != api.OK || !alike(p, q) || !bytes.Equal(items[1].Frame.Body[at:], s.payload) {
					t.Fatalf("%s, cut at %d, came as %s, %d, %d", told(p), cut, told(q), at, e)
				}
			}
		}
	}
}
