package conn_test

import (
	"bytes"
	"fmt"
	"slices"
	"testing"

	"longshore/api"
	"longshore/carve"
	"longshore/conn"
)

func sendError(channel, handle int, tag string, data []byte, settled bool, s api.State) func(c *conn.Conn) api.Errno {
	return func(c *conn.Conn) api.Errno {
		id, e := c.Send(channel, handle, tag, data, settled, s)
		if e != api.OK && id != 0 {
			return -1
		}
		return e
	}
}

// P15.16: the errors of Send, in their order: each stands ahead of all that come later.
func TestSendRefused(t *testing.T) {
	again := func() *conn.Conn { return halves(t) } // it receives on 0, sends on 1, without credit; 2 is alone
	tooMuch := filled(maxMessage + 1)
	bad := api.State{Kind: 99}
	for _, n := range numbers {
		wantRefused(t, "Send", again, api.ErrNoSess, sendError(n, 0, "", tooMuch, true, bad))
		if n != 1 && n != 2 {
			wantRefused(t, "Send", again, api.ErrNoLink, sendError(0, n, "", tooMuch, true, bad))
		}
	}
	wantRefused(t, "Send", again, api.ErrState, sendError(0, 2, "", tooMuch, true, bad))
	for _, handle := range []int{0, 1} {
		for _, tag := range []string{"", long(33), long(100)} {
			wantRefused(t, "Send", again, api.ErrTag, sendError(0, handle, tag, tooMuch, true, bad))
		}
		for _, tag := range []string{"t", long(32), "\xff\x00"} {
			wantRefused(t, "Send", again, api.ErrLong, sendError(0, handle, tag, tooMuch, true, bad))
			wantRefused(t, "Send", again, api.ErrTerm, sendError(0, handle, tag, tooMuch[1:], true, bad))
		}
	}
	wantRefused(t, "Send of a receiver", again, api.ErrState, sendError(0, 0, "t", nil, true, accepted))
	wantRefused(t, "Send", again, api.ErrCredit, sendError(0, 1, "t", nil, true, accepted))
}

// P15.16: the errors of the state, and of a first frame that has no room: they are carve.Split's.
func TestSendStates(t *testing.T) {
	again := func() *conn.Conn { return sending(t, 1) }
	for _, x := range []struct {
		state api.State
		data  int
		want  api.Errno
	}{
		{api.State{Kind: api.KModified, Ann: nested(33)}, 0, api.ErrDeep}, {api.State{Kind: api.KModified, Ann: nested(29)}, 0, api.ErrDeep}, {api.State{Failed: true}, 0, api.ErrTerm}, {api.State{Kind: api.KAccepted, Failed: true}, 0, api.ErrTerm}, {api.State{Kind: api.KTransactional, Txn: "t", Inner: []api.State{{Kind: api.KReceived}}}, 0, api.ErrNested},
		{api.State{Kind: api.KModified, Ann: textMap(700)}, 0, api.ErrRoom}, {api.State{Kind: api.KModified, Ann: textMap(2000)}, 5, api.ErrRoom},
	} {
		wantRefused(t, "Send", again, x.want, sendError(0, 0, "t", filled(x.data), true, x.state))
	}
	for _, s := range []api.State{{}, {Ann: api.Value{List: []api.Value{}}}, accepted, {Kind: api.KModified, Ann: nested(28), Failed: true}, {Kind: api.KTransactional, Txn: "t", Inner: []api.State{accepted}}} {
		c := again()
		id, e := c.Send(0, 0, "t", []byte("x"), true, s)
		wantErrno(t, "Send", e, api.OK)
		p := transferOf(0, id, "t", true)
		p.State = s
		wantOut(t, c, framed(0, p, 'x'))
	}
}

// P15.16: link's errors behind all others; a tag that is not settled, and what the mode does not let be.
func TestSendLinksErrors(t *testing.T) {
	again := func() *conn.Conn {
		c := sending(t, 2)
		_, e := c.Send(0, 0, "t", nil, false, api.State{})
		wantErrno(t, "Send", e, api.OK)
		return c
	}
	wantRefused(t, "Send", again, api.ErrTwice, sendError(0, 0, "t", nil, false, api.State{}))
	wantRefused(t, "Send", again, api.ErrTwice, sendError(0, 0, "t", nil, true, api.State{}))
	c := again()
	_, e := c.Send(0, 0, "u", nil, false, api.State{})
	wantErrno(t, "Send", e, api.OK)
	_, e = c.Send(0, 0, "t", nil, false, api.State{})
	wantErrno(t, "Send without credit", e, api.ErrCredit)
	for mode, settled := range []bool{true, false} {
		open := func() *conn.Conn {
			c := linkedWith(t, config(true), false, func(p *api.Perform) { p.SndMode = mode }, func(p *api.Perform) {})
			give(t, c, 3)
			return c
		}
		wantRefused(t, "Send", open, api.ErrMode, sendError(0, 0, "t", nil, settled, api.State{}))
	}
}

// P15.16: data of at most api's MaxMessage, and of at most the MaxMessage of the peer's Attach, if that is above 0; ours doesn't matter.
func TestSendLengths(t *testing.T) {
	for _, x := range []struct{ peer, most int }{{0, maxMessage}, {1, 1}, {500, 500}, {maxMessage - 1, maxMessage - 1}, {maxMessage, maxMessage}, {maxMessage + 1, maxMessage}, {1 << 62, maxMessage}} {
		again := func() *conn.Conn {
			c := linkedWith(t, config(true), false, func(p *api.Perform) { p.MaxMessage = 7 }, func(p *api.Perform) { p.MaxMessage = x.peer })
			give(t, c, 3)
			return c
		}
		c := again()
		before := seen(c)
		for _, n := range []int{x.most + 1, x.most + 2, 2 * maxMessage} {
			wantErrno(t, "Send", sendError(0, 0, "t", filled(n), true, api.State{})(c), api.ErrLong)
		}
		wantOut(t, c)
		if seen(c) != before {
			t.Errorf("%s, before: %s", seen(c), before)
		}
		for _, n := range []int{x.most, x.most - 1, 0} {
			wantErrno(t, "Send", sendError(0, 0, "t", filled(n), true, api.State{})(c), api.OK)
		}
	}
}

// framesOf is what Split makes of a delivery.
func framesOf(t *testing.T, p api.Perform, data []byte, most int) [][]byte {
	t.Helper()
	frames, e := carve.Split(p, 0, data, most)
	wantErrno(t, "Split", e, api.OK)
	return frames
}

// P15.16: deliveries have the session's next number, of all its links; their frames are at most of the greatest size.
func TestSend(t *testing.T) {
	c := sending(t, 100)
	attach(t, c, "m", 1, 3, false)
	c.Feed(framed(2, linkFlow(sessionFlow(0, 1000, maxWord-1, 9), 3, 0, 100, -1, false)))
	n := 0
	for _, length := range []int{0, 1, 600, 650, 660, 661, 700, 5000} {
		for handle := range 2 {
			for _, settled := range []bool{false, true} {
				tag := fmt.Sprint(n)
				id, e := c.Send(0, handle, tag, filled(length), settled, accepted)
				if id != n || e != api.OK {
					t.Fatalf("Send: %d, %d, want %d", id, e, n)
				}
				p := transferOf(handle, n, tag, settled)
				p.State = accepted
				wantOut(t, c, framesOf(t, p, filled(length), 700)...)
				n++
			}
		}
	}
	if l := c.Links(0); l[0].Unsettled != 8 || l[1].Unsettled != 8 || l[0].Credit != 84 || l[0].Count != 16 {
		t.Errorf("%+v", l)
	}
	// Another session counts for itself.
	c.Feed(framed(0, peerBegin(-1)))
	c.Attach(1, attachOf("l", 0, false))
	c.Feed(framed(0, attachOf("l", 5, true)))
	c.Feed(framed(0, linkFlow(sessionFlow(0, 3, 0, 9), 5, 0, 1, -1, false)))
	c.Out()
	id, e := c.Send(1, 0, "t", nil, true, api.State{})
	if id != 0 || e != api.OK {
		t.Errorf("Send in another session: %d, %d", id, e)
	}
	wantOut(t, c, framed(1, transferOf(0, 0, "t", true)))
}

// P15.16: to a peer that takes any frame the frames are of at most api's MaxFrame.
func TestSendInTheGreatestFrames(t *testing.T) {
	for _, most := range []int{1048575, 1048576, 1048577, maxWord} {
		p := peerOpen()
		p.MaxFrame = most
		c := begun(t, upWith(t, config(true), p))
		attach(t, c, "l", 0, 7, false)
		give(t, c, 3)
		_, e := c.Send(0, 0, "t", filled(maxMessage), true, api.State{})
		wantErrno(t, "Send", e, api.OK)
		wantOut(t, c, framesOf(t, transferOf(0, 0, "t", true), filled(maxMessage), min(most, 1048576))...)
	}
}

// P15.16: transfers are written only while there is Room; the rest waits for the peer's Flow, in order, across links.
func TestRoomEndsInTheMidst(t *testing.T) {
	c := sending(t, 100) // room for three
	attach(t, c, "m", 1, 3, false)
	c.Feed(framed(2, linkFlow(sessionFlow(0, 3, maxWord-1, 9), 3, 0, 100, -1, false)))
	var frames [][]byte
	for i, x := range []struct{ handle, length int }{{0, 1500}, {1, 0}, {0, 2000}, {1, 10}} {
		tag := fmt.Sprint(i)
		_, e := c.Send(0, x.handle, tag, filled(x.length), false, api.State{})
		wantErrno(t, "Send", e, api.OK)
		frames = append(frames, framesOf(t, transferOf(x.handle, i, tag, false), filled(x.length), 700)...)
	}
	if len(frames) != 8 {
		t.Fatalf("%d frames", len(frames))
	}
	wantOut(t, c, frames[:3]...)
	c.Feed(framed(2, sessionFlow(3, 0, maxWord-1, 9)))
	wantOut(t, c)
	c.Feed(framed(2, sessionFlow(1, 3, maxWord-1, 9))) // one more: two are on their way
	wantOut(t, c, frames[3])
	c.Feed(framed(2, sessionFlow(4, 2, maxWord-1, 9)))
	wantOut(t, c, frames[4:6]...)
	for range 3 {
		c.Feed(alive)
		c.Tick(5)
		wantOut(t, c)
	}
	c.Feed(framed(2, sessionFlow(6, 100, maxWord-1, 9)))
	wantOut(t, c, frames[6:]...)
}

// P15.16, P15.14: Dispositions and Flows of links on which we send wait behind transfers; those of links on which we receive do not.
func TestWhatElseWaits(t *testing.T) {
	c := blocked(t) // the window is used up; a transfer of "l" waits, and a Disposition of "m"
	attach(t, c, "r", 2, 5, true)
	wantErrno(t, "Credit", c.Credit(0, 2, 5, false), api.OK)
	c.Feed(framed(2, transferOf(5, 77, "in", false)))
	c.Out()
	wantErrno(t, "Settle", c.Settle(0, 2, "in", accepted, true), api.OK)
	wantOut(t, c, framed(0, dispositionOf(true, 77, -1, true, accepted)))
	wantErrno(t, "Settle", c.Settle(0, 0, "b", accepted, true), api.OK)
	_, e := c.Send(0, 1, "e", nil, true, api.State{})
	wantErrno(t, "Send", e, api.OK)
	wantErrno(t, "Settle", c.Settle(0, 0, "d", api.State{}, true), api.OK)
	wantOut(t, c)
	waiting := [][]byte{framed(0, transferOf(0, 3, "d", false)), framed(0, dispositionOf(false, 0, -1, false, accepted)), framed(0, dispositionOf(false, 1, -1, true, accepted)), framed(0, transferOf(1, 4, "e", true)), framed(0, dispositionOf(false, 3, -1, true, api.State{}))}
	// With room for one what waits behind it is written up to the next transfer.
	c.Feed(framed(2, sessionFlow(3, 1, maxWord, 9)))
	wantOut(t, c, waiting[:3]...)
	c.Feed(framed(2, sessionFlow(4, 1, maxWord, 9)))
	wantOut(t, c, waiting[3:]...)
	// With nothing that waits they are written at once.
	wantErrno(t, "Settle", c.Settle(0, 0, "c", accepted, false), api.OK)
	wantOut(t, c, framed(0, dispositionOf(false, 2, -1, false, accepted)))
}

// P15.16: a tag may be used again as soon as its delivery is settled, also while its frames wait.
func TestTagsAgain(t *testing.T) {
	c := sending(t, 5)
	var want [][]byte
	for i := range 4 {
		_, e := c.Send(0, 0, "t", filled(1500), false, api.State{})
		wantErrno(t, "Send", e, api.OK)
		wantErrno(t, "Settle", c.Settle(0, 0, "t", api.State{}, true), api.OK)
		want = append(want, framesOf(t, transferOf(0, i, "t", false), filled(1500), 700)...)
		want = append(want, framed(0, dispositionOf(false, i, -1, true, api.State{})))
	}
	var got []byte
	for range 10 {
		got = append(got, c.Out()...)
		c.Feed(framed(2, sessionFlow(-1, 100, maxWord-1, 9)))
	}
	if !bytes.Equal(got, slices.Concat(want...)) {
		t.Errorf("Out:%s\nwant:%s", lines(got), lines(slices.Concat(want...)))
	}
}
