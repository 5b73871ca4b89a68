package conn_test

import (
	"fmt"
	"testing"

	"longshore/api"
	"longshore/conn"
)

// further is a transfer of an unfinished delivery.
func further(handle int, turn func(p *api.Perform)) api.Perform {
	return with(api.KTransfer, func(p *api.Perform) {
		p.Handle = handle
		turn(p)
	})
}

// flowOf is the session's Flow that an end of the window 4 writes, when so many transfers have come in all.
func flowOf(come int) []byte {
	return framed(0, sessionFlow((maxWord-1+come)%(1<<32), 4, 0, maxWord))
}

// P15.17: a transfer of a handle that is no link's, of a link that is not whole, or on which we send: the session fails.
func TestTransferFailsTheSession(t *testing.T) {
	fails := func(c *conn.Conn, p api.Perform, cond string) {
		t.Helper()
		wantEvents(t, c.Feed(framed(2, p, 1)), evEnd(0, faultOf(cond)))
		wantOut(t, c, framed(0, endOf(faultOf(cond))))
		wantNoSession(t, c, 0)
		wantEvents(t, c.Feed(framed(2, p, 1)))
		wantOut(t, c)
	}
	for _, handle := range []int{0, 1, 2, 9, maxWord} {
		fails(halves(t), transferOf(handle, 0, "t", true), "unattached-handle") // the peer's handles are 7 and 8
	}
	fails(halves(t), transferOf(8, 0, "t", true), "not-allowed")
	c := begun(t, up(t, true))
	c.Feed(framed(2, attachOf("l", 9, false)))
	fails(c, transferOf(9, 0, "t", true), "not-allowed")
	// A number that another unsettled delivery of the session has, on whichever link.
	c = receiving(t, 5)
	attach(t, c, "m", 1, 3, true)
	c.Credit(0, 1, 5, false)
	c.Out()
	wantEvents(t, c.Feed(framed(2, transferOf(7, 5, "t", false))), evDelivery(0, 0, api.Delivery{Id: 5, Tag: "t"}))
	fails(c, transferOf(3, 5, "u", true), "not-allowed")
}

// P15.17: what fails the link: closed, with its condition; the session stays, and counts the transfer.
func TestTransferFailsTheLink(t *testing.T) {
	fails := func(c *conn.Conn, p api.Perform, cond string, come int, payload ...byte) {
		t.Helper()
		wantEvents(t, c.Feed(framed(2, p, payload...)), evFailed(0, 0, cond))
		want := [][]byte{framed(0, detachOf(0, true, faultOf(cond)))}
		if come == 2 {
			want = append(want, flowOf(2))
		}
		wantOut(t, c, want...)
		wantHandles(t, c)
		wantNoLink(t, c, 0)
		wantChannels(t, c, 0)
		// It is detached by us: the peer's Detach is awaited.
		wantEvents(t, c.Feed(framed(2, detachOf(7, true, api.Fault{}))))
		wantOut(t, c)
		attach(t, c, "l", 0, 7, true)
	}
	first := func(turn func(p *api.Perform)) api.Perform {
		p := transferOf(7, 0, "t", false)
		turn(&p)
		return p
	}
	// A first one without a number, without a tag, with an empty one.
	for _, p := range []api.Perform{first(func(p *api.Perform) { p.DeliveryId = -1 }), first(func(p *api.Perform) { p.HasTag, p.Tag = false, "" }), first(func(p *api.Perform) { p.Tag = "" }), further(7, func(p *api.Perform) {}), first(func(p *api.Perform) { p.DeliveryId, p.Aborted = -1, true })} {
		fails(receiving(t, 5), p, "not-allowed", 1)
		fails(receiving(t, 0), p, "not-allowed", 1) // ahead of the credit
	}
	// Without credit; with a tag that is not settled; not as the mode says.
	fails(receiving(t, 0), first(func(p *api.Perform) {}), "transfer-limit-exceeded", 1)
	c := receiving(t, 1)
	c.Feed(framed(2, first(func(p *api.Perform) {})))
	fails(c, transferOf(7, 1, "u", false), "transfer-limit-exceeded", 2)
	c = receiving(t, 2)
	c.Feed(framed(2, first(func(p *api.Perform) {})))
	fails(c, transferOf(7, 1, "t", true), "not-allowed", 2)
	for mode, settled := range []bool{true, false} {
		c = linkedWith(t, config(true), true, func(p *api.Perform) {}, func(p *api.Perform) { p.SndMode = mode })
		c.Credit(0, 0, 5, false)
		c.Out()
		fails(c, transferOf(7, 1, "t", settled), "not-allowed", 1)
	}
	// What the joiner refuses: another number, tag, format; too many bytes, in the first one, or later.
	for _, p := range []api.Perform{further(7, func(p *api.Perform) { p.DeliveryId = 1 }), further(7, func(p *api.Perform) { p.HasTag, p.Tag = true, "u" }), further(7, func(p *api.Perform) { p.HasTag = true }), further(7, func(p *api.Perform) { p.Format = 1 }), further(7, func(p *api.Perform) { p.Format, p.Aborted = 1, true })} {
		c = receiving(t, 2)
		c.Feed(framed(2, first(func(p *api.Perform) { p.More = true })))
		fails(c, p, "not-allowed", 2)
	}
	for _, more := range []bool{false, true} {
		small := func() *conn.Conn {
			c := linkedWith(t, config(true), true, func(p *api.Perform) { p.MaxMessage = 10 }, func(p *api.Perform) { p.MaxMessage = 5 })
			c.Credit(0, 0, 5, false)
			c.Out()
			return c
		}
		fails(small(), first(func(p *api.Perform) { p.More = more }), "message-size-exceeded", 1, filled(11)...)
		c = small()
		c.Feed(framed(2, first(func(p *api.Perform) { p.More = true }), filled(10)...))
		fails(c, further(7, func(p *api.Perform) { p.More = more }), "message-size-exceeded", 2, 1)
	}
}

// P15.11, P15.17: as a receiver it takes messages of at most our MaxMessage bytes; 0 is api's; more than api's is api's.
func TestGreatestMessage(t *testing.T) {
	for _, x := range []struct{ own, most int }{{0, maxMessage}, {1, 1}, {1000, 1000}, {maxMessage - 1, maxMessage - 1}, {maxMessage, maxMessage}, {maxMessage + 1, maxMessage}, {1<<63 - 1, maxMessage}} {
		for _, n := range []int{x.most, x.most + 1} {
			c := linkedWith(t, configWith(true, func(c *api.ConnConfig) { c.MaxFrame, c.Window = 1048576, 60000 }), true, func(p *api.Perform) { p.MaxMessage = x.own }, func(p *api.Perform) { p.MaxMessage = 1 })
			c.Credit(0, 0, 1, false)
			p := transferOf(7, 0, "t", true)
			p.More = true
			wantEvents(t, c.Feed(framed(2, p, filled(n)[:n/2]...)))
			l := c.Feed(framed(2, further(7, func(p *api.Perform) {}), filled(n)[n/2:]...))
			if n > x.most {
				wantEvents(t, l, evFailed(0, 0, "message-size-exceeded"))
			} else {
				wantEvents(t, l, evDelivery(0, 0, api.Delivery{Tag: "t", Settled: true, Data: filled(n)}))
			}
		}
	}
}

// P15.17: a delivery of many frames is told once, when it is whole; deliveries of several links may be mingled.
func TestDeliveriesOfManyFrames(t *testing.T) {
	c := receiving(t, 5)
	attach(t, c, "m", 1, 3, true)
	c.Credit(0, 1, 5, false)
	c.Out()
	rejected := api.State{Kind: api.KRejected, Fault: api.Fault{Cond: "x", Info: nested(3)}}
	a, b := transferOf(7, 10, "t", false), transferOf(3, 11, "t", true)
	a.More, b.More, a.State, b.Format = true, true, accepted, 9
	wantEvents(t, c.Feed(framed(2, a, []byte("ab")...)))
	wantEvents(t, c.Feed(framed(2, b, []byte("12")...)))
	wantOut(t, c, flowOf(2))
	wantEvents(t, c.Feed(framed(2, further(7, func(p *api.Perform) { p.More, p.State = true, rejected }), []byte("cd")...)))
	wantEvents(t, c.Feed(framed(2, further(3, func(p *api.Perform) {}), []byte("34")...)), evDelivery(0, 1, api.Delivery{Id: 11, Tag: "t", Format: 9, Settled: true, Data: []byte("1234")}))
	wantOut(t, c, flowOf(4))
	wantEvents(t, c.Feed(framed(2, further(7, func(p *api.Perform) {}), []byte("ef")...)), evDelivery(0, 0, api.Delivery{Id: 10, Tag: "t", State: rejected, Data: []byte("abcdef")}))
	wantOut(t, c)
	if l := c.Links(0); l[0].Unsettled != 1 || l[1].Unsettled != 0 || l[0].Count != 1 || l[0].Credit != 4 {
		t.Errorf("%+v", l)
	}
}

// wantForgotten wants that nothing of the link "l" is unsettled: its numbers may come again, at the link and in the session.
func wantForgotten(t *testing.T, c *conn.Conn, id int, tag string) {
	t.Helper()
	if l := c.Links(0)[0]; l.Unsettled != 0 {
		t.Fatalf("%+v", l)
	}
	wantErrno(t, "Settle", c.Settle(0, 0, tag, accepted, false), api.ErrNone)
	wantEvents(t, c.Feed(framed(2, dispositionOf(false, id, -1, true, accepted))))
	wantEvents(t, c.Feed(framed(2, transferOf(7, id, tag, false))), evDelivery(0, 0, api.Delivery{Id: id, Tag: tag}))
}

// P15.17: a delivery that is settled from its first transfer on, in the midst, or at its end, is settled at link and session; also with a receiver that settles second.
func TestSettledDeliveries(t *testing.T) {
	for _, rcv := range []int{api.RcvFirst, api.RcvSecond} {
		for at := range 3 {
			c := linkedWith(t, configWith(true, func(c *api.ConnConfig) { c.Window = 50 }), true, func(p *api.Perform) { p.RcvMode = rcv }, func(p *api.Perform) {})
			c.Credit(0, 0, 9, false)
			first := transferOf(7, 6, "t", at == 0)
			first.More = true
			wantEvents(t, c.Feed(framed(2, first, 'a')))
			wantEvents(t, c.Feed(framed(2, further(7, func(p *api.Perform) { p.More, p.HasSettled, p.Settled = true, at == 1, at == 1 }), 'b')))
			if l := c.Links(0)[0]; l.Unsettled != min(at, 1) {
				t.Fatalf("settled at %d: %+v", at, l)
			}
			wantEvents(t, c.Feed(framed(2, further(7, func(p *api.Perform) { p.HasSettled, p.Settled = true, at == 2 }), 'c')), evDelivery(0, 0, api.Delivery{Id: 6, Tag: "t", Settled: true, Data: []byte("abc")}))
			wantForgotten(t, c, 6, "t")
		}
		// One that is not settled stays.
		c := linkedWith(t, config(true), true, func(p *api.Perform) { p.RcvMode = rcv }, func(p *api.Perform) {})
		c.Credit(0, 0, 9, false)
		wantEvents(t, c.Feed(framed(2, transferOf(7, 6, "t", false))), evDelivery(0, 0, api.Delivery{Id: 6, Tag: "t"}))
		if l := c.Links(0)[0]; l.Unsettled != 1 {
			t.Errorf("%+v", l)
		}
	}
}

// P15.17: a delivery that was aborted is none; it is settled at link and session, and counts.
func TestAborted(t *testing.T) {
	for _, rcv := range []int{api.RcvFirst, api.RcvSecond} {
		for _, pieces := range []int{0, 1, 2} {
			c := linkedWith(t, configWith(true, func(c *api.ConnConfig) { c.Window = 50 }), true, func(p *api.Perform) { p.RcvMode = rcv }, func(p *api.Perform) {})
			c.Credit(0, 0, 9, false)
			p := transferOf(7, 6, "t", false)
			for range pieces {
				p.More = true
				wantEvents(t, c.Feed(framed(2, p, 'a')))
				p = further(7, func(p *api.Perform) {})
			}
			p.Aborted = true
			wantEvents(t, c.Feed(framed(2, p, 'z')))
			if l := c.Links(0)[0]; l.Count != 1 || l.Credit != 8 {
				t.Errorf("%+v", l)
			}
			wantForgotten(t, c, 6, "t")
		}
	}
}

// P15.17: a delivery that was settled meanwhile, by us or by the peer, is not settled again when it has come: what has its number then stays.
func TestSettledMeanwhile(t *testing.T) {
	for _, byPeer := range []bool{false, true} {
		for _, aborted := range []bool{false, true} {
			c := linkedWith(t, configWith(true, func(c *api.ConnConfig) { c.Window = 50 }), true, func(p *api.Perform) {}, func(p *api.Perform) {})
			attach(t, c, "m", 1, 3, true)
			c.Credit(0, 0, 9, false)
			c.Credit(0, 1, 9, false)
			p := transferOf(7, 0, "t", false)
			p.More = true
			wantEvents(t, c.Feed(framed(2, p, 'a')))
			if byPeer {
				wantEvents(t, c.Feed(framed(2, dispositionOf(false, 0, -1, true, accepted))), evState(0, 0, 0, "t", accepted, true))
			} else {
				wantErrno(t, "Settle", c.Settle(0, 0, "t", accepted, true), api.OK)
			}
			wantEvents(t, c.Feed(framed(2, transferOf(3, 0, "t", false))), evDelivery(0, 1, api.Delivery{Tag: "t"}))
			last := further(7, func(p *api.Perform) { p.HasSettled, p.Settled, p.Aborted = true, true, aborted })
			if aborted {
				wantEvents(t, c.Feed(framed(2, last, 'b')))
			} else {
				wantEvents(t, c.Feed(framed(2, last, 'b')), evDelivery(0, 0, api.Delivery{Tag: "t", Settled: true, Data: []byte("ab")}))
			}
			if l := c.Links(0); l[0].Unsettled != 0 || l[1].Unsettled != 1 {
				t.Errorf("%+v", l)
			}
			wantEvents(t, c.Feed(framed(2, dispositionOf(false, 0, -1, true, accepted))), evState(0, 1, 0, "t", accepted, true))
		}
	}
}

// P15.17: a delivery that is settled from its first transfer on is not settled again at its end, nor with its link: what has its number then stays.
func TestSettledFromTheFirst(t *testing.T) {
	for _, aborted := range []bool{false, true} {
		c := linkedWith(t, configWith(true, func(c *api.ConnConfig) { c.Window = 50 }), true, func(p *api.Perform) {}, func(p *api.Perform) {})
		attach(t, c, "m", 1, 3, true)
		c.Credit(0, 0, 9, false)
		c.Credit(0, 1, 9, false)
		p := transferOf(7, 6, "t", true)
		p.More = true
		wantEvents(t, c.Feed(framed(2, p, 'a')))
		wantEvents(t, c.Feed(framed(2, transferOf(3, 6, "t", false))), evDelivery(0, 1, api.Delivery{Id: 6, Tag: "t"}))
		last := further(7, func(p *api.Perform) { p.Aborted = aborted })
		if aborted {
			wantEvents(t, c.Feed(framed(2, last, 'b')))
		} else {
			wantEvents(t, c.Feed(framed(2, last, 'b')), evDelivery(0, 0, api.Delivery{Id: 6, Tag: "t", Settled: true, Data: []byte("ab")}))
		}
		wantErrno(t, "Detach", c.Detach(0, 0, true, api.Fault{}), api.OK)
		c.Feed(framed(2, detachOf(7, true, api.Fault{})))
		wantEvents(t, c.Feed(framed(2, dispositionOf(false, 6, -1, true, accepted))), evState(0, 1, 6, "t", accepted, true))
	}
}

// P15.17: the window is widened when half of it or less is left, and a Flow of the session is written then.
func TestWindowIsWidened(t *testing.T) {
	for window, every := range map[int]int{1: 1, 2: 1, 3: 2, 4: 2, 5: 3, 6: 3, 7: 4, 65535: 32768} {
		c := linkedWith(t, configWith(true, func(c *api.ConnConfig) { c.Window = window }), true, func(p *api.Perform) {}, func(p *api.Perform) {})
		c.Credit(0, 0, 1<<31-1, false)
		c.Out()
		for come := 1; come <= 3*every && come < 40000; come++ {
			if l := c.Feed(framed(2, transferOf(7, come, fmt.Sprint(come), true))); len(l) != 1 || l[0].Kind != api.EvDelivery {
				t.Fatalf("window %d: %s", window, told(l))
			}
			if come%every == 0 {
				wantOut(t, c, framed(0, sessionFlow((maxWord-1+come)%(1<<32), window, 0, maxWord)))
			} else {
				wantOut(t, c)
			}
		}
	}
}
