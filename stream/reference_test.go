package stream_test

import (
	"encoding/binary"
	"encoding/hex"
	"fmt"
	"math"
	"strings"
	"testing"

	"longshore/api"
	"longshore/stream"
)

// The edges of an int: where a number could run over.
var extremes = []int{math.MinInt, math.MinInt + 1, math.MinInt32, -1 << 20, -512, -1, 0, 1, 8, 1 << 21, math.MaxInt32, math.MaxInt - 1, math.MaxInt}

// hexed is bytes out of digits, two by two, with blanks between; the words H and G are the two headers, and F is the frame, of the chapter's examples.
func hexed(s string) []byte {
	var digits string
	for _, word := range strings.Fields(s) {
		switch word {
		case "H":
			word = "4C53485200010000"
		case "G":
			word = "4C53485203010000"
		case "F":
			word = "0000000A020000054142"
		}
		digits += word
	}
	b, err := hex.DecodeString(digits)
	if err != nil {
		panic(err)
	}
	return b
}

var (
	mainHeader  = hexed("4C 53 48 52 00 01 00 00")
	guardHeader = hexed("4C 53 48 52 03 01 00 00")
	exampleData = hexed("00 00 00 0A 02 00 00 05 41 42")
	example     = api.Item{Kind: api.ItemFrame, Frame: api.Frame{Channel: 5, Body: []byte("AB")}}
)

// filled is n bytes, each unlike its neighbours, which begin at a number of their own.
func filled(n, first int) []byte {
	b := make([]byte, n)
	for i := range b {
		b[i] = byte(first + i*7)
	}
	return b
}

func joined(parts ...[]byte) []byte {
	var b []byte
	for _, p := range parts {
		b = append(b, p...)
	}
	return b
}

// headed is a frame whose head says anything, and so many bytes behind the head.
func headed(size uint32, offset, kind byte, channel uint16, behind int) []byte {
	b := binary.BigEndian.AppendUint32(nil, size)
	b = append(b, offset, kind)
	b = binary.BigEndian.AppendUint16(b, channel)
	return append(b, filled(behind, 65)...)
}

// sealed is a frame's bytes, and what a stream tells of them.
func sealed(f api.Frame) ([]byte, api.Item) {
	b := headed(uint32(8+len(f.Ext)+len(f.Body)), byte(2+len(f.Ext)/4), byte(f.Type), uint16(f.Channel), 0)
	return joined(b, f.Ext, f.Body), api.Item{Kind: api.ItemFrame, Frame: f}
}

func proto(n int) api.Item { return api.Item{Kind: api.ItemProto, Proto: n} }

func brief(b []byte) string {
	if len(b) > 40 {
		return fmt.Sprintf("% x .. (%d bytes)", b[:40], len(b))
	}
	return fmt.Sprintf("% x", b)
}

func told(i api.Item) string {
	return fmt.Sprintf("{%d %d {%d %d [%s] [%s]}}", i.Kind, i.Proto, i.Frame.Type, i.Frame.Channel, brief(i.Frame.Ext), brief(i.Frame.Body))
}

func toldAll(l []api.Item) string {
	var s []string
	for _, i := range l {
		s = append(s, told(i))
	}
	return strings.Join(s, ", ")
}

func same(a, b api.Item) bool {
	return a.Kind == b.Kind && a.Proto == b.Proto && a.Frame.Type == b.Frame.Type && a.Frame.Channel == b.Frame.Channel && string(a.Frame.Ext) == string(b.Frame.Ext) && string(a.Frame.Body) == string(b.Frame.Body)
}

func sameAll(a, b []api.Item) bool {
	if len(a) != len(b) {
		return false
	}
	for i := range a {
		if !same(a[i], b[i]) {
			return false
		}
	}
	return true
}

// copied is an item in memory of its own.
func copied(i api.Item) api.Item {
	i.Frame.Ext, i.Frame.Body = joined(i.Frame.Ext), joined(i.Frame.Body)
	return i
}

// model is the chapter said in another way: what of an item has come is looked at as a whole at each byte.
type model struct {
	limit, kind int
	item        []byte
	state       api.StreamState
}

func newModel(most int) *model {
	return &model{limit: most, state: api.StreamState{Header: true}}
}

// take is P6.2 for one byte.
func (m *model) take(c byte) api.Item {
	if m.state.Err != api.OK {
		return api.Item{}
	}
	m.item = append(m.item, c)
	m.state.Taken++
	m.state.Held++
	if m.state.Header {
		return m.asHeader()
	}
	return m.asFrame()
}

func (m *model) asHeader() api.Item {
	n := len(m.item)
	is := string(m.item) == string(mainHeader[:n])
	guard := string(m.item) == string(guardHeader[:n])
	switch {
	case !is && !guard:
		return m.fail(api.ErrProto)
	case n < 8:
		return api.Item{}
	case guard:
		m.kind = 1
		return m.done(proto(3))
	}
	m.kind = 0
	return m.done(proto(0))
}

func (m *model) asFrame() api.Item {
	n := len(m.item)
	if n < 4 {
		return api.Item{}
	}
	size := int(binary.BigEndian.Uint32(m.item))
	switch {
	case n == 4 && string(m.item) == "LSHR":
		return m.fail(api.ErrOrder)
	case n == 4 && (size < 8 || size > m.limit):
		return m.fail(api.ErrSize)
	case n == 5 && (m.item[4] < 2 || 4*int(m.item[4]) > size):
		return m.fail(api.ErrOffset)
	case n == 6 && m.item[5] > 1:
		return m.fail(api.ErrType)
	case n == 6 && int(m.item[5]) != m.kind:
		return m.fail(api.ErrOrder)
	case n < size:
		return api.Item{}
	}
	begin := 4 * int(m.item[4])
	f := api.Frame{Type: m.kind, Ext: m.item[8:begin:begin], Body: m.item[begin:]}
	if m.kind == 0 {
		f.Channel = 256*int(m.item[6]) + int(m.item[7])
	}
	return m.done(api.Item{Kind: api.ItemFrame, Frame: f})
}

func (m *model) fail(e api.Errno) api.Item {
	m.state.Err = e
	m.state.Held = 0
	return api.Item{}
}

func (m *model) done(i api.Item) api.Item {
	m.item = nil
	m.state.Held, m.state.At, m.state.Header = 0, m.state.Taken, false
	return i
}

// until is P6.3.
func (m *model) until(chunk []byte) (api.Item, int) {
	for n, c := range chunk {
		if i := m.take(c); i.Kind != api.ItemNone {
			return i, n + 1
		}
	}
	return api.Item{}, len(chunk)
}

func (m *model) expect() api.Errno {
	if m.state.Header || m.state.Held > 0 || m.state.Err != api.OK {
		return api.ErrState
	}
	m.state.Header = true
	return api.OK
}

func (m *model) most(n int) api.Errno {
	if n < 512 || n > 1048576 {
		return api.ErrArg
	}
	if m.state.Err != api.OK {
		return api.ErrState
	}
	m.limit = n
	return api.OK
}

// byModel is the items of bytes, and the state behind them.
func byModel(most int, b []byte) ([]api.Item, api.StreamState) {
	m := newModel(most)
	var l []api.Item
	for _, c := range b {
		if i := m.take(c); i.Kind != api.ItemNone {
			l = append(l, i)
		}
	}
	return l, m.state
}

// feed gives a stream bytes by Take, until all of them are behind it, and collects the items.
func feed(s *stream.Stream, b []byte) []api.Item {
	var l []api.Item
	for len(b) > 0 {
		i, n := s.Take(b)
		if n < 1 || n > len(b) {
			panic(fmt.Sprintf("Take of %d bytes took %d", len(b), n))
		}
		if i.Kind != api.ItemNone {
			l = append(l, i)
		}
		b = b[n:]
	}
	return l
}

// behind is a stream that has taken bytes.
func behind(most int, b []byte) *stream.Stream {
	s := stream.New(most)
	feed(s, b)
	return s
}

func collect(s *stream.Stream, b []byte) []api.Item {
	var l []api.Item
	for i := range s.All(b) {
		l = append(l, i)
	}
	return l
}

func wantState(t *testing.T, s *stream.Stream, want api.StreamState) {
	t.Helper()
	if got := s.State(); got != want {
		t.Errorf("State(): %+v, want %+v", got, want)
	}
}

func wantTake(t *testing.T, s *stream.Stream, chunk []byte, want api.Item, wantTaken int) {
	t.Helper()
	if i, n := s.Take(chunk); !same(i, want) || n != wantTaken {
		t.Errorf("Take(%s): %s, %d, want %s, %d", brief(chunk), told(i), n, told(want), wantTaken)
	}
}

func wantErr(t *testing.T, what string, got, want api.Errno) {
	t.Helper()
	if got != want {
		t.Errorf("%s: %d, want %d", what, got, want)
	}
}

func wantItems(t *testing.T, got []api.Item, want ...api.Item) {
	t.Helper()
	if !sameAll(got, want) {
		t.Errorf("items: %s, want %s", toldAll(got), toldAll(want))
	}
}

// wantWhole: the item is whole with its last byte, and with none ahead of it.
func wantWhole(t *testing.T, s *stream.Stream, item []byte, want api.Item) {
	t.Helper()
	before := s.State()
	wantHeld(t, s, item[:len(item)-1])
	wantTake(t, s, item[len(item)-1:], want, 1)
	end := before.Taken + len(item)
	wantState(t, s, api.StreamState{Taken: end, At: end})
}

// wantHeld: with none of the bytes an item is whole, or a fault is known.
func wantHeld(t *testing.T, s *stream.Stream, b []byte) {
	t.Helper()
	at := s.State()
	for n := range b {
		wantTake(t, s, b[n:n+1], api.Item{}, 1)
		at.Taken++
		at.Held++
		wantState(t, s, at)
		if t.Failed() {
			return
		}
	}
}

// wantFault: of the bytes just the one with that number, counted from 1, makes the fault known, be they taken one by one or at once, and whatever stands behind it.
func wantFault(t *testing.T, made func() *stream.Stream, b []byte, number int, e api.Errno) {
	t.Helper()
	s := made()
	want := s.State()
	wantHeld(t, s, b[:number-1])
	wantTake(t, s, b[number-1:number], api.Item{}, 1)
	want.Taken += number
	want.Err = e
	wantState(t, s, want)
	wantTake(t, s, b[number:], api.Item{}, len(b)-number)
	wantState(t, s, want)
	s = made()
	wantTake(t, s, b, api.Item{}, len(b))
	wantState(t, s, want)
	s = made()
	wantItems(t, collect(s, b))
	wantState(t, s, want)
}
