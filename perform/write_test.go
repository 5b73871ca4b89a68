package perform_test

import (
	"encoding/binary"
	"slices"
	"strings"
	"testing"

	"longshore/api"
	"longshore/perform"
	"longshore/sample"
)

// P9.3: each kind with all that it has, field by field in the table's order.
func TestWholePerformatives(t *testing.T) {
	modified := `(ulong 39 [true true {symbol "in": {symbol "in": {}}}])`
	fault := `(ulong 29 [symbol "not-found" "why" {symbol "in": {}}])`
	source := `(ulong 40 ["queue/q" uint 2 symbol "never" uint 7 true symbol "copy" "priority > 5" ` + modified + ` array symbol [symbol "longshore:accepted:list" symbol "longshore:released:list"] array symbol [symbol "a" symbol "b"]])`
	target := `(ulong 41 ["topic/t" uint 1 symbol "connection-close" uint 4294967295 true array symbol [symbol "a" symbol "b" symbol "a"]])`
	for kind, want := range map[int]string{
		api.KOpen:        `["id" "host" uint 512 ushort 9 uint 1000 {symbol "in": {}}]`,
		api.KBegin:       `[ushort 3 uint 6 uint 5 uint 7 uint 8 {symbol "in": {}}]`,
		api.KAttach:      `["link" uint 10 true ubyte 1 ubyte 1 ` + source + target + ` {binary "b": ` + modified + `, binary "a": null} true uint 11 ulong 9223372036854775807 {symbol "in": {}}]`,
		api.KFlow:        `[uint 4 uint 5 uint 6 uint 7 uint 10 uint 12 uint 13 uint 14 true true {symbol "in": {}}]`,
		api.KTransfer:    `[uint 10 uint 15 binary "tag" uint 16 true true ` + modified + ` true true true]`,
		api.KDisposition: `[true uint 17 uint 18 true ` + modified + ` true]`,
		api.KDetach:      `[uint 10 true ` + fault + `]`,
		api.KEnd:         `[` + fault + `]`,
		api.KClose:       `[` + fault + `]`,
	} {
		b := encoded(composite(kind, parse(want).List...))
		wantBytes(t, full(kind), b)
		wantRead(t, b, full(kind), len(b))
	}
}

// P9.3: what is not said is not written; 0 is written where it is a number that is there.
func TestWhatIsNotSaid(t *testing.T) {
	for _, c := range []struct {
		p    api.Perform
		want string
	}{
		{blank(api.KOpen, func(p *api.Perform) { p.Host = "h" }), `(ulong 16 ["" "h"])`},
		{blank(api.KOpen, func(p *api.Perform) { p.ChannelMax = 0 }), `(ulong 16 ["" null null ushort 0])`},
		{blank(api.KOpen, func(p *api.Perform) { p.Idle = 0 }), `(ulong 16 ["" null null null uint 0])`},
		{blank(api.KOpen, func(p *api.Perform) { p.Idle = 4294967295 }), `(ulong 16 ["" null null null uint 4294967295])`},
		{blank(api.KOpen, func(p *api.Perform) { p.Props = sample.Pairs() }), `(ulong 16 ["" null null null null {}])`},
		{blank(api.KBegin, func(p *api.Perform) { p.Remote = 0 }), `(ulong 17 [ushort 0 uint 0 uint 0 uint 0])`},
		{blank(api.KBegin, func(p *api.Perform) { p.HandleMax = 0 }), `(ulong 17 [null uint 0 uint 0 uint 0 uint 0])`},
		{blank(api.KAttach, func(p *api.Perform) { p.SndMode = 0 }), `(ulong 18 ["" uint 0 false ubyte 0])`},
		{blank(api.KAttach, func(p *api.Perform) { p.RcvMode = 1 }), `(ulong 18 ["" uint 0 false null ubyte 1])`},
		{blank(api.KAttach, func(p *api.Perform) { p.InitialCount = 0 }), `(ulong 18 ["" uint 0 false null null null null null null uint 0])`},
		{blank(api.KAttach, func(p *api.Perform) { p.MaxMessage = 1 }), `(ulong 18 ["" uint 0 false null null null null null null null ulong 1])`},
		{blank(api.KFlow, func(p *api.Perform) { p.NextIn, p.Available = 0, 0 }), `(ulong 19 [uint 0 uint 0 uint 0 uint 0 null null null uint 0])`},
		{blank(api.KFlow, func(p *api.Perform) { p.Handle, p.Credit = 0, 0 }), `(ulong 19 [null uint 0 uint 0 uint 0 uint 0 null uint 0])`},
		{blank(api.KTransfer, func(p *api.Perform) { p.Format = 0 }), `(ulong 20 [uint 0 null null uint 0])`},
		{blank(api.KDisposition, func(p *api.Perform) { p.Last = 0 }), `(ulong 21 [false uint 0 uint 0])`},
	} {
		wantBytes(t, c.p, encoded(parse(c.want)))
		wantRead(t, encoded(parse(c.want)), c.p, len(encoded(parse(c.want))))
	}
}

// stuffed is a performative of a kind in which a Map of a Binary of n bytes stands.
func stuffed(kind, n int) api.Perform {
	p := perform.Blank(kind)
	m := sample.Pairs(sample.Text(api.Symbol, "k"), sample.Text(api.Binary, strings.Repeat("\xff", n)))
	switch kind {
	case api.KOpen, api.KBegin, api.KAttach, api.KFlow:
		p.Props = m
	case api.KTransfer, api.KDisposition:
		p.State = api.State{Kind: api.KModified, Ann: m}
	default:
		p.Fault = api.Fault{Cond: "x", Info: m}
	}
	return p
}

// P9.3: bytes that are just not too many for a value, and one more.
func TestLongPerformatives(t *testing.T) {
	for _, kind := range kinds {
		b, e := perform.Write(stuffed(kind, 1000000))
		if e != api.OK {
			t.Fatalf("Write of %d: %d", kind, e)
		}
		room := 1048576 - len(b) + 1000000
		most := stuffed(kind, room)
		if b, e = perform.Write(most); e != api.OK || len(b) != 1048576 {
			t.Errorf("Write of %d that is as long as may be: %d bytes, %d", kind, len(b), e)
		}
		wantRead(t, b, most, len(b))
		for _, n := range []int{1, 2, 100, 1 << 20} {
			p := stuffed(kind, room+n)
			if e := perform.Check(p); e != api.OK {
				t.Errorf("Check of %d that is too long: %d", kind, e)
			}
			if b, e := perform.Write(p); e != api.ErrLong || len(b) != 0 {
				t.Errorf("Write of %d that is too long: %d bytes, %d", kind, len(b), e)
			}
		}
	}
}

// span are the bytes of a list or a map with numbers of four bytes.
func span(code byte, count int, elements ...[]byte) []byte {
	data := slices.Concat(elements...)
	b := binary.BigEndian.AppendUint32([]byte{code}, uint32(4+len(data)))
	return append(binary.BigEndian.AppendUint32(b, uint32(count)), data...)
}

// text are the bytes of a Binary, a String or a Symbol with a length of four bytes.
func text(code byte, s string) []byte {
	return append(binary.BigEndian.AppendUint32([]byte{code}, uint32(len(s))), s...)
}

// P9.4: bytes that are too many for a value; a payload does not count.
func TestReadOfLongBytes(t *testing.T) {
	open := func(n int) []byte {
		m := span(0xd1, 2, hex("a3 01 6b"), text(0xb0, strings.Repeat("\xff", n)))
		return slices.Concat(hex("00 53 10"), span(0xd0, 6, hex("a1 00 40 40 40 40"), m))
	}
	room := 1048576 - len(open(0))
	wantRead(t, open(room), stuffed(api.KOpen, room), 1048576)
	wantFault(t, open(room+1), api.ErrLong)
	wantFault(t, open(room+5000), api.ErrLong)
	wantFault(t, append(open(room+1), 0), api.ErrLong)
	wantFault(t, append(open(room), 0), api.ErrPlain)

	b, _ := perform.Write(full(api.KTransfer))
	wantRead(t, append(b, make([]byte, 3<<20)...), full(api.KTransfer), len(b))
	modified := func(n int) []byte {
		m := span(0xd1, 2, hex("a3 01 6b"), text(0xb0, strings.Repeat("\xff", n)))
		return slices.Concat(hex("00 53 14"), span(0xd0, 7, hex("43 40 40 40 40 40 00 53 27"), span(0xd0, 3, hex("40 40"), m)))
	}
	room = 1048576 - len(modified(0))
	wantRead(t, append(modified(room), 1, 2, 3), stuffed(api.KTransfer, room), 1048576)
	wantFault(t, append(modified(room+1), 1, 2, 3), api.ErrLong)
}
