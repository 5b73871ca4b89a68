package conn_test

import (
	"testing"

	"longshore/api"
	"longshore/conn"
)

// The chapter's table of examples, row by row.
func TestExamples(t *testing.T) {
	for _, turn := range []func(c *api.ConnConfig){func(c *api.ConnConfig) { c.MaxFrame = 511 }, func(c *api.ConnConfig) { c.Window = 0 }, func(c *api.ConnConfig) { c.Id = "" }} {
		if c := configWith(false, turn); conn.New(c) != nil {
			t.Errorf("New(%+v) is not nil", c)
		}
	}
	ca, cb := config(false), config(true)
	cb.Id = "b"
	a, b := made(t, ca), made(t, cb)

	wantErrno(t, "a.Open", a.Open(), api.OK)
	wantErrno(t, "a.Open again", a.Open(), api.ErrState)
	out := a.Out()
	if want := append(mainHeader[:8:8], framed(0, openOf(ca))...); string(out) != string(want) {
		t.Fatalf("a.Out:%s\nwant:%s", lines(out), lines(want))
	}

	wantEvents(t, b.Feed(out), evOf(api.EvOpen, 0, 0, openOf(ca)))
	wantOut(t, b, mainHeader)
	wantErrno(t, "b.Open", b.Open(), api.OK)
	wantEvents(t, a.Feed(mainHeader))
	wantEvents(t, a.Feed(b.Out()), evOf(api.EvOpen, 0, 0, openOf(cb)))
	if !a.Up() || !b.Up() {
		t.Fatal("not both are up")
	}

	channel, e := a.Begin()
	if channel != 0 || e != api.OK {
		t.Fatalf("a.Begin: %d, %d", channel, e)
	}
	wantEvents(t, b.Feed(a.Out()), evOf(api.EvBegin, 0, 0, ownBegin(-1, 4)))
	wantEvents(t, a.Feed(b.Out()), evOf(api.EvBegin, 0, 0, ownBegin(0, 4)))

	p := attachOf("l", 0, false)
	p.Target = api.Terminus{Kind: api.KTarget, Address: "queue/q", Expiry: api.ExpSession}
	handle, e := a.Attach(0, p)
	if handle != 0 || e != api.OK {
		t.Fatalf("a.Attach: %d, %d", handle, e)
	}
	wantEvents(t, b.Feed(a.Out()), evOf(api.EvAttach, 0, -1, p))

	q := attachOf("l", 0, true)
	if handle, e = b.Attach(0, q); handle != 0 || e != api.OK {
		t.Fatalf("b.Attach: %d, %d", handle, e)
	}
	wantErrno(t, "b.Credit", b.Credit(0, 0, 1, false), api.OK)
	wantEvents(t, a.Feed(b.Out()), evOf(api.EvAttach, 0, 0, q), evOf(api.EvFlow, 0, 0, linkFlow(sessionFlow(0, 4, 0, maxWord), 0, 0, 1, -1, false)))

	id, e := a.Send(0, 0, "t", []byte("abc"), false, api.State{})
	if id != 0 || e != api.OK {
		t.Fatalf("a.Send: %d, %d", id, e)
	}
	id, e = a.Send(0, 0, "u", []byte("abc"), false, api.State{})
	if id != 0 || e != api.ErrCredit {
		t.Fatalf("a.Send again: %d, %d", id, e)
	}

	wantEvents(t, b.Feed(a.Out()), evDelivery(0, 0, api.Delivery{Id: 0, Tag: "t", Data: []byte("abc")}))
	wantErrno(t, "b.Settle", b.Settle(0, 0, "t", accepted, true), api.OK)
	wantEvents(t, a.Feed(b.Out()), evState(0, 0, 0, "t", accepted, true))

	g := made(t, cb)
	wantEvents(t, g.Feed(guardHeader), evClose(faultOf("not-allowed")))
	wantOut(t, g, mainHeader)

	wantErrno(t, "a.Close", a.Close(api.Fault{}), api.OK)
	wantEvents(t, b.Feed(a.Out()), evClose(api.Fault{}))
	wantEvents(t, a.Feed(b.Out()), evClose(api.Fault{}))
	wantOver(t, a, api.Fault{})
	wantOver(t, b, api.Fault{})
}
