package conn_test

import (
	"bytes"
	"fmt"
	"slices"
	"testing"

	"longshore/api"
	"longshore/conn"
	"longshore/perform"
)

// opened is an end that was opened, and whose peer's header has come; what it has written was handed out.
func opened(t *testing.T, server bool) *conn.Conn {
	t.Helper()
	c := made(t, config(server))
	c.Open()
	wantEvents(t, c.Feed(mainHeader))
	c.Out()
	return c
}

// wantFailed wants that it has failed with a condition: a Close is written with it, ahead of it what stands in ahead; and it is over.
func wantFailed(t *testing.T, c *conn.Conn, l []api.Event, cond string, ahead ...[]byte) {
	t.Helper()
	wantEvents(t, l, evClose(faultOf(cond)))
	wantOut(t, c, append(slices.Clone(ahead), framed(0, closeOf(faultOf(cond))))...)
	wantOver(t, c, faultOf(cond))
}

// P15.3: each header where each one is awaited, of each kind of end.
func TestHeaders(t *testing.T) {
	users := []api.User{{Name: "ann", Secret: "x"}}
	for _, guards := range []bool{false, true} {
		awaited, other := mainHeader, guardHeader
		if guards {
			awaited, other = guardHeader, mainHeader
		}
		server := configWith(true, func(c *api.ConnConfig) { c.Guarded, c.Users = guards, users })
		for _, asked := range []bool{false, true} {
			again := func() *conn.Conn {
				c := made(t, server)
				if asked {
					c.Open()
				}
				return c
			}
			c := again()
			wantEvents(t, c.Feed(other), evClose(faultOf("not-allowed")))
			wantOut(t, c, awaited)
			wantOver(t, c, faultOf("not-allowed"))

			c = again()
			wantEvents(t, c.Feed(awaited))
			switch {
			case guards:
				wantOut(t, c, guardHeader, guarded(hello()))
			case asked:
				wantOut(t, c, mainHeader, framed(0, openOf(server)))
			default:
				wantOut(t, c, mainHeader)
			}
		}

		client := configWith(false, func(c *api.ConnConfig) { c.Guarded, c.Mech = guards, "open" })
		c := made(t, client)
		c.Open()
		c.Out()
		wantEvents(t, c.Feed(other), evClose(faultOf("not-allowed")))
		wantOut(t, c)
		wantOver(t, c, faultOf("not-allowed"))

		c = made(t, client)
		c.Open()
		c.Out()
		wantEvents(t, c.Feed(awaited))
		wantOut(t, c)
	}
}

// P15.3: a client that was not opened is over at the first byte, whatever that is; no byte is none.
func TestClientNotOpened(t *testing.T) {
	for _, guards := range []bool{false, true} {
		for _, first := range [][]byte{{0}, {'L'}, mainHeader, guardHeader, slices.Concat(mainHeader, framed(0, peerOpen()))} {
			c := made(t, configWith(false, func(c *api.ConnConfig) { c.Guarded, c.Mech = guards, "open" }))
			wantEvents(t, c.Feed(nil))
			wantEvents(t, c.Feed([]byte{}))
			if over, _ := c.Over(); over {
				t.Fatal("it is over without a byte")
			}
			wantEvents(t, c.Feed(first), evClose(faultOf("illegal-state")))
			wantOut(t, c)
			wantOver(t, c, faultOf("illegal-state"))
		}
	}
}

// P15.3: frames without a body, on any channel, with or without Ext, say nothing, ahead of the peer's Open and behind it.
func TestFramesWithoutBody(t *testing.T) {
	for _, server := range []bool{false, true} {
		for _, c := range []*conn.Conn{opened(t, server), up(t, server), begun(t, up(t, server))} {
			before := seen(c)
			for _, channel := range []int{0, 1, 2, 3, 4, 65535} {
				wantEvents(t, c.Feed(sealed(api.FrameMain, channel, nil)))
			}
			wantEvents(t, c.Feed([]byte("\x00\x00\x00\x0c\x03\x00\x00\x00\x01\x02\x03\x04")))
			wantOut(t, c)
			if seen(c) != before {
				t.Errorf("%s, before: %s", seen(c), before)
			}
		}
	}
}

// P15.3: a body that is no performative, or with bytes behind it.
func TestDecodeErrors(t *testing.T) {
	written := func(p api.Perform) []byte {
		b, _ := perform.Write(p)
		return b
	}
	open := written(peerOpen())
	for _, server := range []bool{false, true} {
		for _, again := range []func() *conn.Conn{func() *conn.Conn { return opened(t, server) }, func() *conn.Conn { return up(t, server) }, func() *conn.Conn { return linked(t, true) }} {
			for _, body := range [][]byte{{0x40}, {0}, {0xff}, {0x00, 0x53, 0x24, 0x45}, {0x00, 0x53, 0x14, 0x45}, open[:len(open)-1], append(slices.Clone(open), 0x40), append(written(closeOf(api.Fault{})), 0), append(written(endOf(api.Fault{})), 1, 2)} {
				for _, channel := range []int{0, 2, 9} {
					c := again()
					wantFailed(t, c, c.Feed(sealed(api.FrameMain, channel, body)), "decode-error")
				}
			}
		}
	}
}

// allKinds are a performative of each kind but Open.
func allKinds() []api.Perform {
	return []api.Perform{peerBegin(-1), peerBegin(0), attachOf("l", 7, false), sessionFlow(-1, 1, 0, 0), transferOf(7, 0, "t", true), dispositionOf(true, 0, -1, true, accepted), detachOf(7, true, api.Fault{}), endOf(api.Fault{}), closeOf(faultOf("x"))}
}

// P15.3: ahead of the peer's Open any other performative is out of turn; of a server its Open is written then, if it was not yet.
func TestAheadOfTheOpen(t *testing.T) {
	for _, p := range allKinds() {
		for _, channel := range []int{0, 1} {
			for _, server := range []bool{false, true} {
				c := opened(t, server)
				wantFailed(t, c, c.Feed(framed(channel, p)), "illegal-state")
			}
			c := made(t, config(true))
			c.Feed(mainHeader)
			c.Out()
			wantFailed(t, c, c.Feed(framed(channel, p)), "illegal-state", framed(0, openOf(config(true))))
		}
	}
}

// P15.3: a second Open, an Open and a Close on another channel than 0.
func TestOpensAndClosesOutOfTurn(t *testing.T) {
	for _, server := range []bool{false, true} {
		for _, channel := range []int{0, 1, 2, 65535} {
			c := up(t, server)
			wantFailed(t, c, c.Feed(framed(channel, peerOpen())), "illegal-state")
			if channel == 0 {
				continue
			}
			c = opened(t, server)
			wantFailed(t, c, c.Feed(framed(channel, peerOpen())), "illegal-state")
			c = begun(t, up(t, server))
			wantFailed(t, c, c.Feed(framed(channel, closeOf(faultOf("x")))), "illegal-state")
		}
	}
}

// faults are bytes that are no beginning of a frame behind the main header, each with how many of them are taken till that is known, where frames may have 1024 bytes.
func faults() map[string]int {
	return map[string]int{
		"\x00\x00\x00\x07": 4, "\x00\x00\x00\x00": 4, "\x00\x00\x04\x01": 4, "\xff\xff\xff\xff": 4, "LSHR": 4,
		"\x00\x00\x00\x08\x01": 5, "\x00\x00\x00\x08\x03": 5, "\x00\x00\x04\x00\xff\x02": 6, "\x00\x00\x00\x08\x02\x01": 6, "\x00\x00\x00\x08\x02\x02": 6,
	}
}

// P15.3: a fault of the stream, at every place behind which an item is whole: it fails just with the byte at which the fault is known, behind all that came of the items ahead.
func TestFaultsOfTheStream(t *testing.T) {
	items := [][]byte{mainHeader, framed(0, peerOpen()), framed(2, peerBegin(-1)), alive, framed(2, attachOf("l", 7, true))}
	for n := range len(items) + 1 {
		for fault, known := range faults() {
			if n == 0 {
				fault, known = "\x00", 1
			}
			c := made(t, config(true))
			c.Open()
			happened := c.Feed(slices.Concat(items[:n]...))
			wrote := c.Out()
			for i := range known - 1 {
				wantEvents(t, c.Feed([]byte{fault[i]}))
			}
			l := c.Feed([]byte(fault[known-1:] + "more"))
			if n == 0 {
				wantEvents(t, l, evClose(faultOf("framing-error")))
				wantOut(t, c)
				wantOver(t, c, faultOf("framing-error"))
				continue
			}
			wantFailed(t, c, l, "framing-error")

			// All at once it is the same, one behind the other.
			c = made(t, config(true))
			c.Open()
			l = c.Feed(slices.Concat(slices.Concat(items[:n]...), []byte(fault+"more")))
			wantEvents(t, l, append(happened, evClose(faultOf("framing-error")))...)
			wantOut(t, c, wrote, framed(0, closeOf(faultOf("framing-error"))))
		}
	}
}

// P15.3: a fault in the header, at each of its bytes: nothing is written by a server that has not written its header; a client closes.
func TestFaultsOfTheHeader(t *testing.T) {
	for at := range 8 {
		b := bytes.Clone(mainHeader)
		b[at] ^= 0x40
		c := made(t, config(true))
		c.Open()
		wantEvents(t, c.Feed(b[:at]))
		wantEvents(t, c.Feed(b[at:]), evClose(faultOf("framing-error")))
		wantOut(t, c)
		wantOver(t, c, faultOf("framing-error"))

		c = made(t, config(false))
		c.Open()
		c.Out()
		wantFailed(t, c, c.Feed(b), "framing-error")

		// A guarded client has not written its main header.
		c = made(t, configWith(false, func(c *api.ConnConfig) { c.Guarded, c.Mech = true, "open" }))
		c.Open()
		c.Out()
		wantEvents(t, c.Feed(b), evClose(faultOf("framing-error")))
		wantOut(t, c)
		wantOver(t, c, faultOf("framing-error"))
	}
}

// P15.3: a server that was not opened writes its Open ahead of the Close, when it fails.
func TestFailsUnopened(t *testing.T) {
	c := made(t, config(true))
	c.Feed(mainHeader)
	c.Out()
	wantFailed(t, c, c.Feed([]byte("\x00\x00\x00\x07")), "framing-error", framed(0, openOf(config(true))))
}

// P15.3: frames have at most c.MaxFrame bytes, whatever the peer's Open says.
func TestFramesUpToTheLimit(t *testing.T) {
	for _, most := range []int{512, 513, 1024, 1048576} {
		own := configWith(true, func(c *api.ConnConfig) { c.MaxFrame = most })
		again := func() *conn.Conn { return linkedWith(t, own, true, func(p *api.Perform) {}, func(p *api.Perform) {}) }
		sized := func(size int) []byte {
			p := transferOf(7, 0, "t", true)
			return framed(2, p, filled(size-len(framed(2, p)))...)
		}
		c := again()
		c.Credit(0, 0, 1, false)
		if l := c.Feed(sized(most)); len(l) != 1 || l[0].Kind != api.EvDelivery {
			t.Errorf("a frame of %d bytes: %s", most, told(l))
		}
		c = again()
		b := []byte(fmt.Sprintf("%c%c%c%c", 0, 0, 0, 0))
		for i := range b {
			b[i] = byte((most + 1) >> (24 - 8*i))
		}
		wantFailed(t, c, c.Feed(b), "framing-error")
	}
}
