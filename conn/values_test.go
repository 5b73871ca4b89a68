package conn_test

import (
	"bytes"
	"fmt"
	"math"
	"reflect"
	"slices"
	"strings"
	"testing"

	"longshore/api"
	"longshore/conn"
	"longshore/frame"
	"longshore/perform"
	"longshore/sample"
)

// Numbers of the document are said anew, not asked of the program.
const (
	maxWord    = 4294967295
	maxMessage = 1048576
	maxTime    = 1125899906842624
)

// What goes over the wire ahead of the first frame, and a frame that says nothing.
var (
	mainHeader  = []byte("LSHR\x00\x01\x00\x00")
	guardHeader = []byte("LSHR\x03\x01\x00\x00")
	alive       = []byte("\x00\x00\x00\x08\x02\x00\x00\x00")
)

var accepted = api.State{Kind: api.KAccepted}

func long(n int) string { return strings.Repeat("x", n) }

// nested is a map with lists in it, so many levels deep in all.
func nested(levels int) api.Value {
	return sample.Pairs(sample.Text(api.Symbol, "k"), sample.Within(levels-2, sample.Num(api.Uint, 7)))
}

// filled is so many bytes, which are not all alike.
func filled(n int) []byte {
	b := make([]byte, n)
	for i := range b {
		b[i] = byte(i*7 + i/256)
	}
	return b
}

// config is that of the chapter's examples.
func config(server bool) api.ConnConfig {
	return api.ConnConfig{Id: "a", Server: server, MaxFrame: 1024, ChannelMax: 3, Window: 4}
}

func configWith(server bool, turn func(c *api.ConnConfig)) api.ConnConfig {
	c := config(server)
	turn(&c)
	return c
}

func made(t *testing.T, c api.ConnConfig) *conn.Conn {
	t.Helper()
	e := conn.New(c)
	if e == nil {
		t.Fatalf("New(%+v): nil", c)
	}
	return e
}

// performatives as the peer may say them, or as the chapter lets them be written.

func with(kind int, turn func(p *api.Perform)) api.Perform {
	p := perform.Blank(kind)
	turn(&p)
	return p
}

func openOf(c api.ConnConfig) api.Perform {
	return with(api.KOpen, func(p *api.Perform) {
		p.Id, p.Host, p.MaxFrame, p.ChannelMax, p.Idle = c.Id, c.Host, c.MaxFrame, c.ChannelMax, c.Idle
		if c.Idle == 0 {
			p.Idle = -1
		}
	})
}

// peerOpen is an Open that leaves frames of 700 bytes and four channels.
func peerOpen() api.Perform {
	return with(api.KOpen, func(p *api.Perform) { p.Id, p.MaxFrame, p.ChannelMax = "peer", 700, 3 })
}

// ownBegin is the Begin that the chapter says of an end of that window.
func ownBegin(remote, window int) api.Perform {
	return api.Perform{Kind: api.KBegin, Remote: remote, InWin: window, OutWin: maxWord, HandleMax: 63}
}

// peerBegin is a Begin with numbers that go round soon.
func peerBegin(remote int) api.Perform {
	return api.Perform{Kind: api.KBegin, Remote: remote, NextOut: maxWord - 1, InWin: 3, OutWin: 9, HandleMax: 5}
}

func faultOf(cond string) api.Fault { return api.Fault{Cond: cond} }

func endOf(f api.Fault) api.Perform { return api.Perform{Kind: api.KEnd, Fault: f} }

func closeOf(f api.Fault) api.Perform { return api.Perform{Kind: api.KClose, Fault: f} }

func detachOf(handle int, closed bool, f api.Fault) api.Perform {
	return api.Perform{Kind: api.KDetach, Handle: handle, Closed: closed, Fault: f}
}

func attachOf(name string, handle int, receiver bool) api.Perform {
	return with(api.KAttach, func(p *api.Perform) { p.Name, p.Handle, p.Receiver = name, handle, receiver })
}

// sessionFlow is a Flow without a link's fields.
func sessionFlow(nextIn, inWin, nextOut, outWin int) api.Perform {
	return with(api.KFlow, func(p *api.Perform) { p.NextIn, p.InWin, p.NextOut, p.OutWin = nextIn, inWin, nextOut, outWin })
}

// linkFlow is such a Flow with a link's fields.
func linkFlow(p api.Perform, handle, count, credit, available int, drain bool) api.Perform {
	p.Handle, p.Count, p.Credit, p.Available, p.Drain = handle, count, credit, available, drain
	return p
}

// transferOf is a delivery's first transfer, as it is written of an end.
func transferOf(handle, id int, tag string, settled bool) api.Perform {
	return with(api.KTransfer, func(p *api.Perform) {
		p.Handle, p.DeliveryId, p.HasTag, p.Tag, p.Format, p.HasSettled, p.Settled = handle, id, true, tag, 0, true, settled
	})
}

func dispositionOf(receiver bool, first, last int, settled bool, s api.State) api.Perform {
	return api.Perform{Kind: api.KDisposition, Receiver: receiver, First: first, Last: last, Settled: settled, State: s}
}

// framed is a main frame with a performative, and payload behind it.
func framed(channel int, p api.Perform, payload ...byte) []byte {
	body, e := perform.Write(p)
	if e != api.OK {
		panic(fmt.Sprintf("%+v: %d", p, e))
	}
	return sealed(api.FrameMain, channel, append(body, payload...))
}

func sealed(kind, channel int, body []byte) []byte {
	b, e := frame.Seal(api.Frame{Type: kind, Channel: channel, Body: body})
	if e != api.OK {
		panic(e)
	}
	return b
}

func guarded(body []byte) []byte { return sealed(api.FrameGuard, 0, body) }

// lines are the items of some bytes as text, one a line.
func lines(b []byte) string {
	var out strings.Builder
	for at := 0; at < len(b); {
		if proto, next, e := frame.ReadHeader(b, at); e == api.OK {
			fmt.Fprintf(&out, "\n  header %d", proto)
			at = next
			continue
		}
		f, next, e := frame.Open(b, at, api.MaxFrame)
		if e != api.OK {
			fmt.Fprintf(&out, "\n  no item: %x", b[at:])
			break
		}
		p, payload, e := perform.Read(f.Body)
		switch {
		case f.Type == api.FrameGuard || len(f.Body) == 0:
			fmt.Fprintf(&out, "\n  type %d, body %x", f.Type, f.Body)
		case e != api.OK:
			fmt.Fprintf(&out, "\n  %d: error %d: %x", f.Channel, e, f.Body)
		default:
			fmt.Fprintf(&out, "\n  %d: %s and %d bytes", f.Channel, told(p), len(f.Body)-payload)
		}
		at = next
	}
	return out.String()
}

// told is something as text, in which all that is zero or empty is left out.
func told(x any) string {
	var b strings.Builder
	tell(&b, reflect.ValueOf(x))
	return b.String()
}

func tell(b *strings.Builder, v reflect.Value) {
	switch v.Kind() {
	case reflect.Struct:
		b.WriteString("{")
		for i := range v.NumField() {
			if f := v.Field(i); !isNothing(f) {
				b.WriteString(" " + v.Type().Field(i).Name + ":")
				tell(b, f)
			}
		}
		b.WriteString(" }")
	case reflect.Slice:
		b.WriteString("[")
		for i := range v.Len() {
			if v.Type().Elem().Kind() == reflect.Uint8 {
				fmt.Fprintf(b, "%02x", v.Index(i).Uint())
				continue
			}
			b.WriteString(" ")
			tell(b, v.Index(i))
		}
		b.WriteString(" ]")
	case reflect.Interface:
		tell(b, v.Elem())
	case reflect.String:
		fmt.Fprintf(b, "%q", v.String())
	default:
		fmt.Fprint(b, v)
	}
}

// isNothing tells whether all is zero or empty; nil and an empty list are the same.
func isNothing(v reflect.Value) bool {
	switch v.Kind() {
	case reflect.Struct:
		for i := range v.NumField() {
			if !isNothing(v.Field(i)) {
				return false
			}
		}
		return true
	case reflect.Slice:
		return v.Len() == 0
	}
	return v.IsZero()
}

// The text tells things apart.
func TestTold(t *testing.T) {
	l := []any{api.Event{}, api.Event{Kind: 1}, api.Event{Handle: -1}, api.Event{Settled: true}, api.Event{User: "a"}, api.Event{User: "a\" Kind:1"}, api.Event{Fault: faultOf("x")}, api.Event{Perform: peerOpen()}, api.Event{Delivery: api.Delivery{Data: []byte{1}}}, api.Event{Delivery: api.Delivery{Data: []byte{1, 0}}}, api.Event{State: accepted}, api.Event{State: api.State{Inner: []api.State{{}}}}, []api.Event{{}}, []api.Event{{}, {}}, []int{1}, []int{1, 0}}
	for i, a := range l {
		for j, b := range l {
			if (told(a) == told(b)) != (i == j) {
				t.Errorf("%s and %s", told(a), told(b))
			}
		}
	}
	if told(api.Event{Delivery: api.Delivery{Data: []byte{}}}) != told(api.Event{}) {
		t.Error("nil and an empty list are not the same")
	}
}

func wantErrno(t *testing.T, what string, got, want api.Errno) {
	t.Helper()
	if got != want {
		t.Fatalf("%s: %d, want %d", what, got, want)
	}
}

// wantOut wants just these bytes of Out, and nothing of a second one.
func wantOut(t *testing.T, c *conn.Conn, want ...[]byte) {
	t.Helper()
	if got := c.Out(); !bytes.Equal(got, slices.Concat(want...)) {
		t.Fatalf("Out:%s\nwant:%s", lines(got), lines(slices.Concat(want...)))
	}
	if got := c.Out(); len(got) != 0 {
		t.Fatalf("a second Out:%s", lines(got))
	}
}

func wantEvents(t *testing.T, got []api.Event, want ...api.Event) {
	t.Helper()
	if len(got) == 0 && len(want) == 0 {
		return
	}
	if told(got) != told(want) {
		t.Fatalf("events\n%s\nwant\n%s", told(got), told(want))
	}
}

func evClose(f api.Fault) api.Event { return api.Event{Kind: api.EvClose, Fault: f} }

func evEnd(channel int, f api.Fault) api.Event {
	return api.Event{Kind: api.EvEnd, Channel: channel, Fault: f}
}

// evOf is an event with a performative.
func evOf(kind, channel, handle int, p api.Perform) api.Event {
	return api.Event{Kind: kind, Channel: channel, Handle: handle, Perform: p}
}

// evFailed is that of a link that fails.
func evFailed(channel, handle int, cond string) api.Event {
	return api.Event{Kind: api.EvDetach, Channel: channel, Handle: handle, Fault: faultOf(cond)}
}

func evDelivery(channel, handle int, d api.Delivery) api.Event {
	return api.Event{Kind: api.EvDelivery, Channel: channel, Handle: handle, Delivery: d}
}

func evState(channel, handle, id int, tag string, s api.State, settled bool) api.Event {
	return api.Event{Kind: api.EvState, Channel: channel, Handle: handle, Delivery: api.Delivery{Id: id, Tag: tag}, State: s, Settled: settled}
}

// wantOver wants that it is over with this fault, and stays so: it has nothing, and nothing happens any more.
func wantOver(t *testing.T, c *conn.Conn, f api.Fault) {
	t.Helper()
	over, got := c.Over()
	if !over || told(got) != told(f) {
		t.Fatalf("Over: %v, %+v, want %+v", over, got, f)
	}
	before := seen(c)
	wantEvents(t, c.Feed(slices.Concat(mainHeader, framed(0, closeOf(api.Fault{})))))
	wantEvents(t, c.Tick(maxTime))
	wantErrno(t, "Open", c.Open(), api.ErrClosed)
	wantErrno(t, "Close", c.Close(api.Fault{}), api.ErrClosed)
	_, e := c.Begin()
	wantErrno(t, "Begin", e, api.ErrClosed)
	for channel := range 4 {
		wantNoSession(t, c, channel)
	}
	if len(c.Out()) != 0 || seen(c) != before || c.Up() || len(c.Channels()) != 0 {
		t.Fatalf("something has changed: %s, before: %s", seen(c), before)
	}
}

// wantNoSession wants that all calls which need one answer that there is none.
func wantNoSession(t *testing.T, c *conn.Conn, channel int) {
	t.Helper()
	_, attach := c.Attach(channel, attachOf("l", 0, false))
	_, send := c.Send(channel, 0, "t", nil, false, api.State{})
	_, drained := c.Drained(channel, 0)
	for i, e := range []api.Errno{attach, send, drained, c.End(channel, api.Fault{}), c.Detach(channel, 0, true, api.Fault{}), c.Credit(channel, 0, 1, false), c.Settle(channel, 0, "t", accepted, true)} {
		if e != api.ErrNoSess {
			t.Fatalf("call %d at channel %d: %d", i, channel, e)
		}
	}
	if len(c.Links(channel)) != 0 || len(c.Handles(channel)) != 0 {
		t.Fatalf("links at channel %d: %v", channel, c.Links(channel))
	}
}

// asked is what can be asked of an end without a change of it.
type asked interface {
	Links(channel int) []api.LinkState
	Handles(channel int) []int
	Channels() []int
	Up() bool
	Over() (bool, api.Fault)
}

// seen is all that they tell.
func seen(c asked) string {
	over, f := c.Over()
	s := fmt.Sprintf("up %v over %v %s", c.Up(), over, told(f))
	for _, channel := range c.Channels() {
		s += fmt.Sprintf("; %d: %v %s", channel, c.Handles(channel), told(c.Links(channel)))
	}
	return s
}

// upWith is an end that is up, its peer's Open as said; what it has written so far was handed out.
func upWith(t *testing.T, c api.ConnConfig, peer api.Perform) *conn.Conn {
	t.Helper()
	e := made(t, c)
	wantErrno(t, "Open", e.Open(), api.OK)
	wantEvents(t, e.Feed(mainHeader))
	wantEvents(t, e.Feed(framed(0, peer)), evOf(api.EvOpen, 0, 0, peer))
	if !e.Up() {
		t.Fatal("it is not up")
	}
	wantOut(t, e, mainHeader, framed(0, openOf(c)))
	return e
}

func up(t *testing.T, server bool) *conn.Conn {
	t.Helper()
	return upWith(t, config(server), peerOpen())
}

// begun is an end with a session: our channel is 0, the peer's 2.
func begun(t *testing.T, c *conn.Conn) *conn.Conn {
	t.Helper()
	wantEvents(t, c.Feed(framed(2, peerBegin(-1))), evOf(api.EvBegin, 0, 0, peerBegin(-1)))
	c.Out()
	return c
}

// linked is an end with a session and a whole link in it, in which that is our role: our handle is 0, the peer's 7; and the link's name is "l".
func linked(t *testing.T, receiver bool) *conn.Conn {
	t.Helper()
	return linkedWith(t, config(true), receiver, func(p *api.Perform) {}, func(p *api.Perform) {})
}

// linkedWith is such an end, made with another configuration and other Attaches.
func linkedWith(t *testing.T, config api.ConnConfig, receiver bool, own, peer func(p *api.Perform)) *conn.Conn {
	t.Helper()
	c := begun(t, upWith(t, config, peerOpen()))
	attachWith(t, c, "l", 0, 7, receiver, own, peer)
	return c
}

// attachWith lets the peer attach a link, and answers it.
func attachWith(t *testing.T, c *conn.Conn, name string, handle, remote int, receiver bool, own, peer func(p *api.Perform)) {
	t.Helper()
	p, q := attachOf(name, remote, !receiver), attachOf(name, 0, receiver)
	peer(&p)
	own(&q)
	wantEvents(t, c.Feed(framed(2, p)), evOf(api.EvAttach, 0, -1, p))
	h, e := c.Attach(0, q)
	wantErrno(t, "Attach", e, api.OK)
	if h != handle {
		t.Fatalf("Attach: %d, want %d", h, handle)
	}
	c.Out()
}

func attach(t *testing.T, c *conn.Conn, name string, handle, remote int, receiver bool) {
	t.Helper()
	attachWith(t, c, name, handle, remote, receiver, func(p *api.Perform) {}, func(p *api.Perform) {})
}

// sending is a sender's end that has credit; the session's window, as the peer tells it, is the first 3 transfers.
func sending(t *testing.T, credit int) *conn.Conn {
	t.Helper()
	c := linked(t, false)
	give(t, c, credit)
	return c
}

// give is the peer's Flow by which the link of its handle 7 has so much credit; the session's window stays.
func give(t *testing.T, c *conn.Conn, credit int) {
	t.Helper()
	p := linkFlow(sessionFlow(0, 3, maxWord-1, 9), 7, 0, credit, -1, false)
	wantEvents(t, c.Feed(framed(2, p)), evOf(api.EvFlow, 0, 0, p))
}

// receiving is a receiver's end that has given credit; what it has written was handed out.
func receiving(t *testing.T, credit int) *conn.Conn {
	t.Helper()
	c := linked(t, true)
	wantErrno(t, "Credit", c.Credit(0, 0, credit, false), api.OK)
	c.Out()
	return c
}

// wantRefused wants an error of a call, and no change by it: what can be seen is the same, and all that comes later.
func wantRefused(t *testing.T, what string, again func() *conn.Conn, want api.Errno, call func(c *conn.Conn) api.Errno) {
	t.Helper()
	c := again()
	before := seen(c)
	wantErrno(t, what, call(c), want)
	if after := seen(c); after != before {
		t.Fatalf("%s: %s, before: %s", what, after, before)
	}
	if got, want := probed(c), probed(again()); got != want {
		t.Fatalf("%s: something has changed: %s\nwant %s", what, got, want)
	}
}

// probed is what comes of calls that change an end, of all its sessions, links and deliveries; at last the peer speaks on its channel 2.
func probed(c *conn.Conn) string {
	var b strings.Builder
	note := func(x ...any) { fmt.Fprintln(&b, told(x), lines(c.Out()), seen(c)) }
	note("at first")
	for channel := range 2 {
		for handle := range 3 {
			drained, e := c.Drained(channel, handle)
			note(drained, e, c.Settle(channel, handle, "t", api.State{}, false), c.Settle(channel, handle, "u", accepted, false))
			id, e := c.Send(channel, handle, "probe", filled(1500), true, api.State{})
			note(id, e, c.Credit(channel, handle, 5, true))
			id, e = c.Send(channel, handle, "t", filled(5), false, accepted)
			note(id, e, c.Settle(channel, handle, "t", accepted, true))
		}
		for _, receiver := range []bool{false, true} {
			handle, e := c.Attach(channel, attachOf("l", 0, receiver))
			note(handle, e)
		}
	}
	channel, e := c.Begin()
	note(channel, e)
	note(c.Tick(1000), c.Open())
	flow := sessionFlow(-1, 100, maxWord, 9)
	flow.Echo = true
	note(c.Feed(framed(2, flow)))
	for id := range 3 {
		note(c.Feed(framed(2, transferOf(7, id+9, fmt.Sprint("p", id), false), 1, 2, 3)))
	}
	note(c.Feed(framed(2, dispositionOf(true, 0, 9, true, accepted))), c.Feed(framed(2, dispositionOf(false, 0, 9, true, accepted))))
	note(c.Feed(framed(2, detachOf(7, true, api.Fault{}))))
	for channel := range 3 {
		note(c.End(channel, api.Fault{}))
	}
	note(c.Close(api.Fault{}))
	note(c.Feed(framed(0, closeOf(faultOf("probe")))))
	return b.String()
}

// numbers are some that may be a channel or a handle of nothing.
var numbers = []int{-1, -2, 1, 2, 3, 63, 64, 65535, 65536, maxWord, maxWord + 1, 1 << 32, 1 << 62, math.MinInt, math.MaxInt}

// badFaults are faults that may not be, with their errors: those of a condition, a text and an Info that may not be, and of an Info that is too deep for a performative.
func badFaults() []badFault {
	return []badFault{
		{api.Fault{Cond: "Not"}, api.ErrTerm}, {api.Fault{Cond: long(65)}, api.ErrTerm}, {api.Fault{Cond: "x", Text: "\xff"}, api.ErrTerm}, {api.Fault{Cond: "x", Text: long(4097)}, api.ErrTerm},
		{api.Fault{Cond: "x", Info: sample.Num(api.Uint, 1)}, api.ErrTerm}, {api.Fault{Cond: "x", Info: sample.Pairs(sample.Num(api.Uint, 1))}, api.ErrMap},
		{api.Fault{Cond: "x", Info: nested(33)}, api.ErrDeep}, {api.Fault{Cond: "x", Info: nested(31)}, api.ErrDeep}, {api.Fault{Cond: "x", Info: nested(30)}, api.ErrDeep}, {api.Fault{Cond: "x", Info: nested(29)}, api.ErrDeep},
	}
}

type badFault struct {
	fault api.Fault
	want  api.Errno
}

// noFaults are faults without a condition: whatever else they have, there is none.
func noFaults() []api.Fault {
	return []api.Fault{{}, {Text: "why"}, {Text: "\xff" + long(5000)}, {Info: nested(40)}, {Info: sample.Num(99, 1)}}
}

// textMap is a Map with a text of so many bytes in it.
func textMap(n int) api.Value {
	return sample.Pairs(sample.Text(api.Symbol, "k"), sample.Text(api.Binary, long(n)))
}
