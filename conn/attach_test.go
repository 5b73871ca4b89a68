package conn_test

import (
	"fmt"
	"slices"
	"testing"

	"longshore/api"
	"longshore/conn"
	"longshore/sample"
)

// attachError is Attach, of which only the error is asked; beside one the handle must be 0.
func attachError(channel int, p api.Perform) func(c *conn.Conn) api.Errno {
	return func(c *conn.Conn) api.Errno {
		handle, e := c.Attach(channel, p)
		if e != api.OK && handle != 0 {
			return -1
		}
		return e
	}
}

func wantAttach(t *testing.T, c *conn.Conn, p api.Perform, want int) {
	t.Helper()
	handle, e := c.Attach(0, p)
	wantErrno(t, "Attach", e, api.OK)
	if handle != want {
		t.Fatalf("Attach: %d, want %d", handle, want)
	}
	p.Handle = want
	wantOut(t, c, framed(0, p))
}

func wantHandles(t *testing.T, c *conn.Conn, want ...int) {
	t.Helper()
	if got := c.Handles(0); !slices.Equal(got, want) || len(c.Links(0)) != len(want) {
		t.Fatalf("Handles: %v, %v, want %v", got, c.Links(0), want)
	}
}

// roomFor is an end with a session whose peer takes handles up to that one.
func roomFor(t *testing.T, handleMax int) *conn.Conn {
	t.Helper()
	c := up(t, true)
	p := peerBegin(-1)
	p.HandleMax = handleMax
	c.Feed(framed(2, p))
	c.Out()
	return c
}

// P15.11: the errors of Attach, in their order: each stands ahead of all that come later.
func TestAttachRefused(t *testing.T) {
	full := func() *conn.Conn { // the name "l" is there, all handles are in use
		c := linked(t, false)
		for i := range 5 {
			wantAttach(t, c, attachOf(fmt.Sprint(i), 0, false), i+1)
		}
		return c
	}
	tooLong := attachOf("new", 0, false)
	tooLong.Props = textMap(900)
	twice := tooLong
	twice.Name = "l"
	bad := twice
	bad.SndMode = 3
	other := bad
	other.Kind = api.KFlow
	for _, channel := range numbers {
		wantRefused(t, "Attach", full, api.ErrNoSess, attachError(channel, other))
	}
	wantRefused(t, "Attach", full, api.ErrArg, attachError(0, other))
	wantRefused(t, "Attach", full, api.ErrRange, attachError(0, bad))
	wantRefused(t, "Attach", full, api.ErrTwice, attachError(0, twice))
	wantRefused(t, "Attach", full, api.ErrMany, attachError(0, tooLong))
	wantRefused(t, "Attach", func() *conn.Conn { return linked(t, false) }, api.ErrLong, attachError(0, tooLong))

	unanswered := func() *conn.Conn {
		c := up(t, true)
		c.Begin()
		return c
	}
	ended := func() *conn.Conn {
		c := linked(t, false)
		c.End(0, api.Fault{})
		return c
	}
	wantRefused(t, "Attach", unanswered, api.ErrNoSess, attachError(0, other))
	wantRefused(t, "Attach", ended, api.ErrNoSess, attachError(0, other))
	for _, kind := range []int{0, -1, api.KOpen, api.KDetach, api.KAttach + 1<<32} {
		p := attachOf("new", 0, false)
		p.Kind = kind
		wantRefused(t, "Attach", full, api.ErrArg, attachError(0, p))
	}
}

// P15.11: perform.Check's errors; Handle is taken as 0, whatever it is.
func TestAttachChecks(t *testing.T) {
	again := func() *conn.Conn { return begun(t, up(t, true)) }
	for _, x := range []struct {
		turn func(p *api.Perform)
		want api.Errno
	}{
		{func(p *api.Perform) { p.Name = long(65) }, api.ErrLong}, {func(p *api.Perform) { p.Name = "\xff" }, api.ErrText}, {func(p *api.Perform) { p.SndMode = -1 }, api.ErrRange}, {func(p *api.Perform) { p.RcvMode = 2 }, api.ErrRange},
		{func(p *api.Perform) { p.InitialCount = -2 }, api.ErrRange}, {func(p *api.Perform) { p.InitialCount = maxWord + 1 }, api.ErrRange}, {func(p *api.Perform) { p.MaxMessage = -1 }, api.ErrRange},
		{func(p *api.Perform) { p.Props = sample.List() }, api.ErrField}, {func(p *api.Perform) { p.Source.Kind = api.KTarget }, api.ErrField}, {func(p *api.Perform) { p.Source.Kind = 99 }, api.ErrTerm}, {func(p *api.Perform) { p.First = 1 }, api.ErrPerform},
		{func(p *api.Perform) { p.Unsettled = []api.Unsettled{{Tag: "t"}, {Tag: "t"}} }, api.ErrMap}, {func(p *api.Perform) { p.Props = nested(31) }, api.ErrDeep},
	} {
		p := attachOf("l", 0, true)
		x.turn(&p)
		wantRefused(t, "Attach", again, x.want, attachError(0, p))
	}
	for _, handle := range append(numbers, 0) {
		p := attachOf("l", 0, true)
		p.Props, p.Unsettled, p.Incomplete, p.MaxMessage = nested(3), []api.Unsettled{{Tag: "u", State: accepted}}, true, 77
		p.Source = api.Terminus{Kind: api.KSource, Address: "queue/q", Expiry: api.ExpSession, Filter: "a"}
		p.Handle = handle
		c := again()
		wantAttach(t, c, p, 0)
		wantAttach(t, c, attachOf("m", handle, true), 1)
	}
}

// P15.11: whether the frame is too long is asked with the handle that it gets; where it is, the handle stays free.
func TestAttachTooLong(t *testing.T) {
	sized := func(handle, size int) api.Perform {
		for n := 256; n < 1000; n++ {
			p := attachOf("new", handle, false)
			p.Props = textMap(n)
			if len(framed(0, p)) == size {
				return p
			}
		}
		t.Fatalf("no Attach of %d bytes", size)
		return api.Perform{}
	}
	fits := sized(0, 700) // with the handle 0, which takes a byte less than 1
	wantAttach(t, begun(t, up(t, true)), fits, 0)
	again := func() *conn.Conn { return linked(t, false) }
	wantRefused(t, "Attach", again, api.ErrLong, attachError(0, fits))
	wantRefused(t, "Attach", again, api.ErrLong, attachError(0, sized(1, 701)))
	c := again()
	attachError(0, fits)(c)
	wantAttach(t, c, sized(1, 700), 1)
}

// P15.11: a Name once in each role, of those that we have attached and not detached.
func TestAttachTwice(t *testing.T) {
	c := linked(t, false) // we send on "l"
	for _, name := range []string{"l", "m", ""} {
		for _, receiver := range []bool{false, true} {
			want := api.OK
			if name == "l" && !receiver {
				want = api.ErrTwice
			}
			_, e := c.Attach(0, attachOf(name, 0, receiver))
			wantErrno(t, "Attach", e, want)
			_, e = c.Attach(0, attachOf(name, 0, receiver))
			wantErrno(t, "Attach again", e, api.ErrTwice)
		}
	}
	// One that we have detached, though it keeps its handle.
	c = linked(t, false)
	wantErrno(t, "Detach", c.Detach(0, 0, true, api.Fault{}), api.OK)
	c.Out()
	wantAttach(t, c, attachOf("l", 0, false), 1)
	_, e := c.Attach(0, attachOf("l", 0, false))
	wantErrno(t, "Attach again", e, api.ErrTwice)
	// One that the peer has detached; one of another session.
	c = linked(t, false)
	c.Feed(framed(2, detachOf(7, true, api.Fault{})))
	c.Feed(framed(1, peerBegin(-1)))
	c.Out()
	wantAttach(t, c, attachOf("l", 0, false), 0)
	handle, e := c.Attach(1, attachOf("l", 0, false))
	if handle != 0 || e != api.OK {
		t.Errorf("Attach in another session: %d, %d", handle, e)
	}
	// One that the peer has attached, and that we have not answered, is none of ours.
	c = begun(t, up(t, true))
	c.Feed(framed(2, attachOf("l", 9, false)))
	wantAttach(t, c, attachOf("l", 0, false), 0)
	wantHandles(t, c)
}

// P15.11: as many handles as the peer's HandleMax lets there be, and at most MaxLinks; the least free one.
func TestAttachHandles(t *testing.T) {
	for _, x := range []struct{ handleMax, many int }{{0, 1}, {1, 2}, {62, 63}, {63, 64}, {64, 64}, {maxWord, 64}} {
		again := func() *conn.Conn {
			c := roomFor(t, x.handleMax)
			for handle := range x.many {
				wantAttach(t, c, attachOf(fmt.Sprint("l", handle/2), 0, handle%2 == 0), handle)
			}
			return c
		}
		wantRefused(t, "Attach", again, api.ErrMany, attachError(0, attachOf("new", 0, false)))
	}
	// A handle is free again when its link is gone, not when we have detached it.
	c := roomFor(t, 3)
	for handle, remote := range []int{9, 8, 7, 6} {
		attach(t, c, fmt.Sprint(handle), handle, remote, false)
	}
	wantErrno(t, "Detach", c.Detach(0, 2, true, api.Fault{}), api.OK)
	wantErrno(t, "Detach", c.Detach(0, 1, true, api.Fault{}), api.OK)
	c.Out()
	wantHandles(t, c, 0, 3)
	_, e := c.Attach(0, attachOf("new", 0, false))
	wantErrno(t, "Attach", e, api.ErrMany)
	wantEvents(t, c.Feed(framed(2, detachOf(7, true, api.Fault{}))))
	wantAttach(t, c, attachOf("new", 0, false), 2)
	wantEvents(t, c.Feed(framed(2, detachOf(8, true, api.Fault{}))))
	wantAttach(t, c, attachOf("newer", 0, false), 1)
	p := detachOf(9, false, api.Fault{})
	wantEvents(t, c.Feed(framed(2, p)), evOf(api.EvDetach, 0, 0, p))
	c.Out()
	wantAttach(t, c, attachOf("newest", 0, false), 0)
}

// P15.11: who has attached first is answered by who has the other role, under the same Name; nothing else is an answer.
func TestAnswers(t *testing.T) {
	for _, receiver := range []bool{false, true} {
		// We answer.
		c := begun(t, up(t, true))
		p := attachOf("l", 63, !receiver)
		p.Props, p.Unsettled = nested(3), []api.Unsettled{{Tag: "u", State: accepted}}
		wantEvents(t, c.Feed(framed(2, p)), evOf(api.EvAttach, 0, -1, p))
		wantOut(t, c)
		wantAttach(t, c, attachOf("l", 0, !receiver), 0)
		wantAttach(t, c, attachOf("m", 0, receiver), 1)
		wantHandles(t, c)
		wantAttach(t, c, attachOf("l", 0, receiver), 2)
		wantHandles(t, c, 2)
		if l := c.Links(0)[0]; l != (api.LinkState{Name: "l", Receiver: receiver}) {
			t.Errorf("%+v", l)
		}

		// The peer answers.
		c = begun(t, up(t, true))
		wantAttach(t, c, attachOf("m", 0, receiver), 0)
		wantAttach(t, c, attachOf("l", 0, receiver), 1)
		for remote, q := range []api.Perform{attachOf("l", 0, receiver), attachOf("x", 1, !receiver)} {
			q.Handle = remote
			wantEvents(t, c.Feed(framed(2, q)), evOf(api.EvAttach, 0, -1, q))
		}
		wantHandles(t, c)
		wantEvents(t, c.Feed(framed(2, p)), evOf(api.EvAttach, 0, 1, p))
		wantHandles(t, c, 1)
		wantOut(t, c)
	}
}

// P15.11: a name in both roles is two links, whoever began them.
func TestOneNameTwoLinks(t *testing.T) {
	c := begun(t, up(t, true))
	wantAttach(t, c, attachOf("l", 0, false), 0)
	p, q := attachOf("l", 3, false), attachOf("l", 4, true)
	wantEvents(t, c.Feed(framed(2, p)), evOf(api.EvAttach, 0, -1, p))
	wantEvents(t, c.Feed(framed(2, q)), evOf(api.EvAttach, 0, 0, q))
	wantAttach(t, c, attachOf("l", 0, true), 1)
	wantHandles(t, c, 0, 1)
	l := c.Links(0)
	if l[0].Receiver || !l[1].Receiver || l[0].Name != "l" || l[1].Name != "l" {
		t.Errorf("%+v", l)
	}
}

// P15.11: the failures of the peer's Attach, in their order.
func TestPeersAttachFails(t *testing.T) {
	fails := func(c *conn.Conn, p api.Perform, cond string) {
		t.Helper()
		wantEvents(t, c.Feed(framed(2, p)), evEnd(0, faultOf(cond)))
		wantOut(t, c, framed(0, endOf(faultOf(cond))))
		wantNoSession(t, c, 0)
		wantChannels(t, c)
		// It is ended by us: the peer's End is awaited.
		wantEvents(t, c.Feed(framed(2, attachOf("z", 1, true))))
		wantEvents(t, c.Feed(framed(2, endOf(api.Fault{}))))
		wantOut(t, c)
	}
	for _, handle := range []int{64, 65, 1000, maxWord} {
		fails(linked(t, true), attachOf("new", handle, false), "not-allowed")
		fails(linked(t, true), attachOf("l", handle, false), "not-allowed")
	}
	for _, receiver := range []bool{false, true} {
		for _, name := range []string{"l", "new"} {
			// Of a whole link, of one that we have not answered, of one that we have detached.
			fails(linked(t, receiver), attachOf(name, 7, false), "handle-in-use")
			fails(linked(t, receiver), attachOf(name, 7, true), "handle-in-use")
			c := begun(t, up(t, true))
			c.Feed(framed(2, attachOf("l", 7, receiver)))
			fails(c, attachOf(name, 7, true), "handle-in-use")
			c = linked(t, receiver)
			c.Detach(0, 0, true, api.Fault{})
			c.Out()
			fails(c, attachOf(name, 7, true), "handle-in-use")
		}
		// The Name in the same role.
		fails(linked(t, receiver), attachOf("l", 8, !receiver), "not-allowed")
		c := begun(t, up(t, true))
		c.Feed(framed(2, attachOf("l", 7, receiver)))
		fails(c, attachOf("l", 8, receiver), "not-allowed")
	}
}

// P15.11: a Name may be attached again by the peer when it has detached it, or we have; and in the other role.
func TestPeersAttachAgain(t *testing.T) {
	for _, receiver := range []bool{false, true} {
		p := attachOf("l", 8, !receiver)
		c := linked(t, receiver)
		c.Detach(0, 0, true, api.Fault{})
		wantEvents(t, c.Feed(framed(2, p)), evOf(api.EvAttach, 0, -1, p))

		c = linked(t, receiver)
		c.Feed(framed(2, detachOf(7, true, api.Fault{})))
		p.Handle = 7
		wantEvents(t, c.Feed(framed(2, p)), evOf(api.EvAttach, 0, -1, p))

		c = begun(t, up(t, true))
		c.Feed(framed(2, attachOf("l", 7, receiver)))
		c.Feed(framed(2, detachOf(7, true, api.Fault{})))
		wantEvents(t, c.Feed(framed(2, p)), evOf(api.EvAttach, 0, -1, p))

		c = linked(t, receiver)
		p = attachOf("l", 8, receiver)
		wantEvents(t, c.Feed(framed(2, p)), evOf(api.EvAttach, 0, -1, p))

		// Ours that was detached is not answered by it, but the one that we have attached again is.
		c = linked(t, receiver)
		c.Detach(0, 0, true, api.Fault{})
		c.Out()
		wantAttach(t, c, attachOf("l", 0, receiver), 1)
		p = attachOf("l", 8, !receiver)
		wantEvents(t, c.Feed(framed(2, p)), evOf(api.EvAttach, 0, 1, p))
		wantHandles(t, c, 1)
	}
}

// P15.11: of a whole link SndMode and InitialCount are the sender's, RcvMode is the receiver's.
func TestWholeLinksModes(t *testing.T) {
	for _, answers := range []bool{false, true} {
		for _, receiver := range []bool{false, true} {
			for _, snd := range []int{api.SndOpen, api.SndSettled, api.SndMixed} {
				for _, rcv := range []int{api.RcvFirst, api.RcvSecond} {
					for _, first := range []int{-1, 0, 5, maxWord} {
						wantModes(t, answers, receiver, snd, rcv, first)
					}
				}
			}
		}
	}
}

func wantModes(t *testing.T, answers, receiver bool, snd, rcv, first int) {
	t.Helper()
	sender := func(p *api.Perform) { p.SndMode, p.InitialCount, p.RcvMode = snd, first, 1-rcv }
	taker := func(p *api.Perform) { p.SndMode, p.InitialCount, p.RcvMode = (snd+1)%3, 77, rcv }
	own, peer := sender, taker
	if receiver {
		own, peer = taker, sender
	}
	c := begun(t, up(t, true))
	p, q := attachOf("l", 0, receiver), attachOf("l", 7, !receiver)
	own(&p)
	peer(&q)
	if answers {
		c.Feed(framed(2, q))
		wantAttach(t, c, p, 0)
	} else {
		wantAttach(t, c, p, 0)
		c.Feed(framed(2, q))
	}
	count := max(first, 0)
	if got := c.Links(0)[0]; got.Count != count {
		t.Fatalf("Count %d, want %d", got.Count, count)
	}
	wantE := func(want bool) api.Errno {
		if want {
			return api.OK
		}
		return api.ErrMode
	}
	flow := linkFlow(sessionFlow(0, 3, maxWord-1, 9), 7, count, 9, -1, false)
	if !receiver {
		c.Feed(framed(2, flow))
		for _, settled := range []bool{false, true} {
			_, e := c.Send(0, 0, fmt.Sprint(settled), nil, settled, api.State{})
			wantErrno(t, "Send", e, wantE(snd == api.SndMixed || settled == (snd == api.SndSettled)))
		}
		return
	}
	wantErrno(t, "Credit", c.Credit(0, 0, 9, false), api.OK)
	l := c.Feed(framed(2, transferOf(7, 5, "t", snd == api.SndSettled)))
	if len(l) != 1 || l[0].Kind != api.EvDelivery {
		t.Fatalf("%s", told(l))
	}
	if snd != api.SndSettled {
		wantErrno(t, "Settle", c.Settle(0, 0, "t", accepted, true), wantE(rcv == api.RcvFirst))
	}
	if l = c.Feed(framed(2, transferOf(7, 6, "u", snd == api.SndOpen))); snd != api.SndMixed {
		wantEvents(t, l, evFailed(0, 0, "not-allowed"))
	} else if len(l) != 1 || l[0].Kind != api.EvDelivery {
		t.Fatalf("%s", told(l))
	}
}

// P15.13: Links and Handles of whole links, rising, of those not detached by us.
func TestLinksAndHandles(t *testing.T) {
	c := roomFor(t, 63)
	var want []int
	for handle := range 40 {
		switch handle % 3 {
		case 0: // alone
			wantAttach(t, c, attachOf(fmt.Sprint(handle), 0, false), handle)
		default:
			attach(t, c, fmt.Sprint(handle), handle, 40-handle, handle%2 == 0)
			want = append(want, handle)
		}
	}
	c.Feed(framed(2, attachOf("unanswered", 50, true)))
	wantHandles(t, c, want...)
	for i, l := range c.Links(0) {
		if l.Name != fmt.Sprint(want[i]) || l.Receiver != (want[i]%2 == 0) {
			t.Errorf("%d: %+v", want[i], l)
		}
	}
	for _, gone := range []int{1, 38, 20} {
		wantErrno(t, "Detach", c.Detach(0, gone, true, api.Fault{}), api.OK)
		want = slices.DeleteFunc(want, func(h int) bool { return h == gone })
		wantHandles(t, c, want...)
	}
	for _, channel := range numbers {
		if len(c.Links(channel)) != 0 || len(c.Handles(channel)) != 0 {
			t.Errorf("links of channel %d", channel)
		}
	}
}
