package conn_test

import (
	"fmt"
	"testing"

	"longshore/api"
	"longshore/conn"
)

func settleError(channel, handle int, tag string, s api.State, settled bool) func(c *conn.Conn) api.Errno {
	return func(c *conn.Conn) api.Errno { return c.Settle(channel, handle, tag, s, settled) }
}

// came is an end that receives on "l" (0, 7), with the delivery 300, "t", that is not settled.
func came(t *testing.T, rcv int) *conn.Conn {
	t.Helper()
	c := linkedWith(t, config(true), true, func(p *api.Perform) { p.RcvMode = rcv }, func(p *api.Perform) {})
	c.Credit(0, 0, 5, false)
	wantEvents(t, c.Feed(framed(2, transferOf(7, 300, "t", false))), evDelivery(0, 0, api.Delivery{Id: 300, Tag: "t"}))
	c.Out()
	return c
}

// went is an end that has sent on "l" (0, 7) the delivery 1, "t", which is not settled; ahead of it went a settled one.
func went(t *testing.T, rcv int) *conn.Conn {
	t.Helper()
	c := linkedWith(t, config(true), false, func(p *api.Perform) {}, func(p *api.Perform) { p.RcvMode = rcv })
	give(t, c, 5)
	c.Send(0, 0, "s", nil, true, api.State{})
	c.Send(0, 0, "t", nil, false, api.State{})
	c.Out()
	return c
}

// tooBig is a state with which a Disposition of a number has just so many bytes as a frame.
func tooBig(t *testing.T, receiver bool, first, size int) api.State {
	t.Helper()
	for n := 256; n < 1000; n++ {
		s := api.State{Kind: api.KModified, Ann: textMap(n)}
		if len(framed(0, dispositionOf(receiver, first, -1, true, s))) == size {
			return s
		}
	}
	t.Fatalf("no Disposition of %d bytes", size)
	return api.State{}
}

// P15.18: the errors of Settle, in their order.
func TestSettleRefused(t *testing.T) {
	again := func() *conn.Conn { return halves(t) }
	bad := api.State{Kind: api.KAccepted, Failed: true, Ann: textMap(900)}
	for _, n := range numbers {
		wantRefused(t, "Settle", again, api.ErrNoSess, settleError(n, 0, "t", bad, true))
		if n != 1 && n != 2 {
			wantRefused(t, "Settle", again, api.ErrNoLink, settleError(0, n, "t", bad, true))
		}
	}
	wantRefused(t, "Settle", again, api.ErrState, settleError(0, 2, "t", bad, true))
	for _, x := range []struct {
		again  func() *conn.Conn
		isOurs bool
		first  int
	}{{func() *conn.Conn { return came(t, api.RcvFirst) }, true, 300}, {func() *conn.Conn { return came(t, api.RcvSecond) }, true, 300}, {func() *conn.Conn { return went(t, api.RcvFirst) }, false, 1}, {again, true, 0}} {
		for _, tag := range []string{"t", "none", "", long(100)} {
			for _, settled := range []bool{false, true} {
				for _, y := range []struct {
					state api.State
					want  api.Errno
				}{{bad, api.ErrTerm}, {api.State{Kind: 99}, api.ErrTerm}, {api.State{Kind: api.KModified, Ann: nested(33)}, api.ErrDeep}, {api.State{Kind: api.KModified, Ann: nested(29)}, api.ErrDeep}, {api.State{Kind: api.KTransactional, Txn: "t", Inner: []api.State{{}}}, api.ErrNested}, {api.State{Kind: api.KModified, Ann: textMap(900)}, api.ErrLong}} {
					wantRefused(t, "Settle", x.again, y.want, settleError(0, 0, tag, y.state, settled))
				}
			}
		}
		// The number counts for how long the frame is; where there is no such delivery it is 0.
		wantRefused(t, "Settle", x.again, api.ErrLong, settleError(0, 0, "none", tooBig(t, x.isOurs, 0, 701), false))
		wantRefused(t, "Settle", x.again, api.ErrNone, settleError(0, 0, "none", tooBig(t, x.isOurs, 0, 700), false))
		if x.first > 0 {
			wantRefused(t, "Settle", x.again, api.ErrLong, settleError(0, 0, "t", tooBig(t, x.isOurs, x.first, 701), false))
			wantErrno(t, "Settle", x.again().Settle(0, 0, "t", tooBig(t, x.isOurs, x.first, 700), false), api.OK)
		}
	}
	for _, s := range []api.State{{}, accepted} {
		wantRefused(t, "Settle", func() *conn.Conn { return came(t, api.RcvSecond) }, api.ErrMode, settleError(0, 0, "t", s, true))
		wantRefused(t, "Settle", func() *conn.Conn { return came(t, api.RcvSecond) }, api.ErrNone, settleError(0, 0, "u", s, true))
		wantRefused(t, "Settle", func() *conn.Conn { return went(t, api.RcvSecond) }, api.ErrNone, settleError(0, 0, "s", s, false))
	}
}

// P15.18: a Disposition is written, in our role, with the number, and the state, if there is one; a settled delivery is forgotten.
func TestSettle(t *testing.T) {
	nothing := []api.State{{}, {Failed: true, Txn: "t"}, {Ann: nested(40)}, {Inner: []api.State{{Kind: 99}}, Section: -1}}
	states := []api.State{accepted, {Kind: api.KReceived, Section: 1, Offset: 70000}, {Kind: api.KModified, Failed: true, Ann: nested(28)}, {Kind: api.KTransactional, Txn: "t", Inner: []api.State{accepted}}}
	for _, settled := range []bool{false, true} {
		for _, s := range append(nothing, states...) {
			written := s
			if s.Kind == 0 {
				written = api.State{}
			}
			for _, x := range []struct {
				c        *conn.Conn
				receiver bool
				id       int
			}{{came(t, api.RcvFirst), true, 300}, {went(t, api.RcvFirst), false, 1}, {went(t, api.RcvSecond), false, 1}} {
				wantErrno(t, "Settle", x.c.Settle(0, 0, "t", s, settled), api.OK)
				wantOut(t, x.c, framed(0, dispositionOf(x.receiver, x.id, -1, settled, written)))
				unsettled, want := 0, api.ErrNone
				if !settled {
					unsettled, want = 1, api.OK
				}
				if l := x.c.Links(0)[0]; l.Unsettled != unsettled {
					t.Errorf("%+v", l)
				}
				wantErrno(t, "Settle again", x.c.Settle(0, 0, "t", accepted, true), want)
				wantEvents(t, x.c.Feed(framed(2, dispositionOf(!x.receiver, x.id, -1, true, accepted))))
			}
		}
	}
}

// P15.18: a session forgets what is settled: its number may come again.
func TestSettledNumbersComeAgain(t *testing.T) {
	c := came(t, api.RcvFirst)
	wantErrno(t, "Settle", c.Settle(0, 0, "t", accepted, true), api.OK)
	wantEvents(t, c.Feed(framed(2, transferOf(7, 300, "t", false))), evDelivery(0, 0, api.Delivery{Id: 300, Tag: "t"}))
	wantErrno(t, "Settle", c.Settle(0, 0, "t", accepted, false), api.OK)
	wantEvents(t, c.Feed(framed(2, transferOf(7, 300, "u", false))), evEnd(0, faultOf("not-allowed")))
}

// several is an end on whose links "l" (0, 7) and "m" (1, 3) the deliveries 0 to 5 are not settled, in turns; sent or come.
func several(t *testing.T, receiver bool) *conn.Conn {
	t.Helper()
	c := linked(t, receiver)
	attach(t, c, "m", 1, 3, receiver)
	for handle, remote := range []int{7, 3} {
		if receiver {
			c.Credit(0, handle, 9, false)
		} else {
			c.Feed(framed(2, linkFlow(sessionFlow(0, 90, maxWord-1, 9), remote, 0, 9, -1, false)))
		}
	}
	for id := range 6 {
		if tag := fmt.Sprint("t", id); receiver {
			c.Feed(framed(2, transferOf([]int{7, 3}[id%2], id, tag, false)))
		} else {
			c.Send(0, id%2, tag, nil, false, api.State{})
		}
	}
	if l := c.Links(0); l[0].Unsettled != 3 || l[1].Unsettled != 3 {
		t.Fatalf("%+v", l)
	}
	c.Out()
	return c
}

// P15.18: the peer's Disposition, in either role: each unsettled delivery from First to Last, in the order of their numbers, of several links.
func TestPeersDisposition(t *testing.T) {
	modified := api.State{Kind: api.KModified, Failed: true, Ann: nested(3)}
	for _, receiver := range []bool{false, true} {
		for _, settled := range []bool{false, true} {
			for _, x := range []struct{ first, last, from, to int }{{0, -1, 0, 0}, {3, -1, 3, 3}, {0, 0, 0, 0}, {1, 4, 1, 4}, {0, 5, 0, 5}, {0, maxWord, 0, -1}, {0, 1<<31 - 1, 0, 5}, {4, 99, 4, 5}, {maxWord - 5, 2, 0, 2}, {6, 9, 0, -1}, {4, 2, 0, -1}, {9, -1, 0, -1}, {maxWord, -1, 0, -1}} {
				for _, s := range []api.State{{}, accepted, modified} {
					c := several(t, receiver)
					var want []api.Event
					for id := x.from; id <= x.to; id++ {
						want = append(want, evState(0, id%2, id, fmt.Sprint("t", id), s, settled))
					}
					p := dispositionOf(!receiver, x.first, x.last, settled, s)
					p.Batchable = true
					wantEvents(t, c.Feed(framed(2, p)), want...)
					wantOut(t, c)
					// Of the other role's deliveries there are none.
					wantEvents(t, c.Feed(framed(2, dispositionOf(receiver, 0, 1000, settled, s))))
					if settled {
						wantEvents(t, c.Feed(framed(2, p)))
					} else {
						wantEvents(t, c.Feed(framed(2, p)), want...) // the same again is told again
					}
					left := 6
					if settled {
						left -= len(want)
					}
					if l := c.Links(0); l[0].Unsettled+l[1].Unsettled != left {
						t.Errorf("%+v", l)
					}
				}
			}
		}
	}
}

// P15.18: where link's Peer refuses, that link fails, and nothing more of this Disposition is done for it; for other links it is.
func TestPeersDispositionFailsALink(t *testing.T) {
	c := linkedWith(t, config(true), false, func(p *api.Perform) {}, func(p *api.Perform) { p.RcvMode = api.RcvSecond })
	attach(t, c, "m", 1, 3, false)
	for _, remote := range []int{7, 3} {
		c.Feed(framed(2, linkFlow(sessionFlow(0, 90, maxWord-1, 9), remote, 0, 9, -1, false)))
	}
	for id := range 6 {
		c.Send(0, id%2, fmt.Sprint("t", id), nil, false, api.State{})
	}
	c.Out()
	wantEvents(t, c.Feed(framed(2, dispositionOf(true, 0, 3, false, accepted))), evState(0, 0, 0, "t0", accepted, false), evState(0, 1, 1, "t1", accepted, false), evState(0, 0, 2, "t2", accepted, false), evState(0, 1, 3, "t3", accepted, false))
	wantEvents(t, c.Feed(framed(2, dispositionOf(true, 1, 5, true, accepted))), evState(0, 1, 1, "t1", accepted, true), evFailed(0, 0, "not-allowed"), evState(0, 1, 3, "t3", accepted, true), evState(0, 1, 5, "t5", accepted, true))
	wantOut(t, c, framed(0, detachOf(0, true, faultOf("not-allowed"))))
	wantHandles(t, c, 1)
	wantEvents(t, c.Feed(framed(2, dispositionOf(true, 0, 9, false, accepted))))
}

// P15.18: a Disposition of deliveries that are on their way, or unfinished, is taken.
func TestDispositionOfUnfinished(t *testing.T) {
	c := sending(t, 2)
	c.Send(0, 0, "t", filled(5000), false, api.State{}) // more than the window takes
	first := c.Out()
	wantEvents(t, c.Feed(framed(2, dispositionOf(true, 0, -1, true, accepted))), evState(0, 0, 0, "t", accepted, true))
	c.Feed(framed(2, sessionFlow(-1, 100, maxWord-1, 9)))
	all := framesOf(t, transferOf(0, 0, "t", false), filled(5000), 700)
	n := 0
	for _, b := range all {
		n += len(b)
	}
	if rest := c.Out(); len(first)+len(rest) != n {
		t.Errorf("%d and %d bytes, want %d in all", len(first), len(rest), n)
	}

	c = receiving(t, 2)
	p := transferOf(7, 4, "t", false)
	p.More = true
	c.Feed(framed(2, p, 'a'))
	wantErrno(t, "Settle", c.Settle(0, 0, "t", accepted, false), api.OK)
	wantOut(t, c, framed(0, dispositionOf(true, 4, -1, false, accepted)))
	wantEvents(t, c.Feed(framed(2, further(7, func(p *api.Perform) {}), 'b')), evDelivery(0, 0, api.Delivery{Id: 4, Tag: "t", Data: []byte("ab")}))
}
