package conn_test

import (
	"slices"
	"testing"

	"longshore/api"
	"longshore/conn"
	"longshore/frame"
	"longshore/perform"
)

// P15.2: a client's Open: the header, and right behind it its Open; of a guarded one the guard's header alone.
func TestOpenOfClients(t *testing.T) {
	for _, turn := range []func(c *api.ConnConfig){
		func(c *api.ConnConfig) {},
		func(c *api.ConnConfig) {
			c.Id, c.Host, c.MaxFrame, c.ChannelMax, c.Idle = long(64), long(64), 1048576, 65535, maxWord
		},
		func(c *api.ConnConfig) { c.Host, c.MaxFrame, c.ChannelMax, c.Idle = "h", 512, 0, 1 },
	} {
		config := configWith(false, turn)
		c := made(t, config)
		wantErrno(t, "Open", c.Open(), api.OK)
		want := with(api.KOpen, func(p *api.Perform) {
			p.Id, p.Host, p.MaxFrame, p.ChannelMax, p.Idle = config.Id, config.Host, config.MaxFrame, config.ChannelMax, config.Idle
		})
		if config.Idle == 0 {
			want.Idle = -1
		}
		wantOut(t, c, mainHeader, framed(0, want))
		wantErrno(t, "Open again", c.Open(), api.ErrState)
		wantOut(t, c)

		config.Guarded, config.Mech = true, "open"
		c = made(t, config)
		wantErrno(t, "Open", c.Open(), api.OK)
		wantOut(t, c, guardHeader)
		wantErrno(t, "Open again", c.Open(), api.ErrState)
		wantErrno(t, "Close", c.Close(api.Fault{}), api.ErrState)
		wantOut(t, c)
	}
}

// P15.2: a server's Open is written at once behind its main header, and else right behind that.
func TestOpenOfServers(t *testing.T) {
	own := framed(0, openOf(config(true)))
	c := made(t, config(true))
	wantErrno(t, "Open", c.Open(), api.OK)
	wantOut(t, c)
	wantErrno(t, "Close", c.Close(api.Fault{}), api.ErrState)
	wantErrno(t, "Open again", c.Open(), api.ErrState)
	wantEvents(t, c.Feed(mainHeader))
	wantOut(t, c, mainHeader, own)
	wantErrno(t, "Open again", c.Open(), api.ErrState)
	wantOut(t, c)

	c = made(t, config(true))
	wantEvents(t, c.Feed(mainHeader))
	wantOut(t, c, mainHeader)
	wantErrno(t, "Open", c.Open(), api.OK)
	wantOut(t, c, own)
	wantErrno(t, "Open again", c.Open(), api.ErrState)
	wantOut(t, c)

	guarded := configWith(true, func(c *api.ConnConfig) { c.Guarded = true })
	c = made(t, guarded)
	wantErrno(t, "Open", c.Open(), api.OK)
	wantOut(t, c)
}

// P15.2, 'To write': where its Open was written already, as another performative was, Open writes nothing, and is OK once.
func TestOpenWrittenUnasked(t *testing.T) {
	c := made(t, config(true))
	c.Feed(slices.Concat(mainHeader, framed(0, peerOpen())))
	wantOut(t, c, mainHeader)
	if c.Up() {
		t.Error("it is up without its Open")
	}
	_, e := c.Begin()
	wantErrno(t, "Begin", e, api.ErrState)
	wantEvents(t, c.Feed(framed(3, peerBegin(-1))), evOf(api.EvBegin, 0, 0, peerBegin(-1)))
	wantOut(t, c, framed(0, openOf(config(true))), framed(0, ownBegin(3, 4)))
	if !c.Up() {
		t.Error("it is not up")
	}
	wantErrno(t, "Open", c.Open(), api.OK)
	wantErrno(t, "Open again", c.Open(), api.ErrState)
	wantOut(t, c)
	channel, e := c.Begin()
	wantErrno(t, "Begin", e, api.OK)
	wantOut(t, c, framed(channel, ownBegin(-1, 4)))
}

// P15.2: ErrClosed, if it is over, also ahead of ErrState.
func TestOpenOfWhatIsOver(t *testing.T) {
	for _, opened := range []bool{false, true} {
		c := made(t, config(true))
		if opened {
			c.Open()
		}
		wantEvents(t, c.Feed(guardHeader), evClose(faultOf("not-allowed")))
		wantErrno(t, "Open", c.Open(), api.ErrClosed)
		wantOut(t, c, mainHeader)
	}
}

// P15.4: the peer's Open is told as it is, with all that it says.
func TestPeersOpen(t *testing.T) {
	full := with(api.KOpen, func(p *api.Perform) {
		p.Id, p.Host, p.MaxFrame, p.ChannelMax, p.Idle, p.Props = long(64), "h", maxWord, 65535, 9, nested(5)
	})
	for _, server := range []bool{false, true} {
		for _, p := range []api.Perform{peerOpen(), full, perform.Blank(api.KOpen)} {
			c := upWith(t, config(server), p)
			wantOut(t, c)
		}
	}
}

// P15.4: it is up when both Opens have come and gone, till a Close is written, or it is over.
func TestUp(t *testing.T) {
	server := made(t, config(true))
	wantUp := func(c *conn.Conn, want bool) {
		t.Helper()
		if c.Up() != want {
			t.Fatalf("Up: %v", !want)
		}
	}
	server.Feed(mainHeader)
	wantUp(server, false)
	server.Open()
	wantUp(server, false)
	server.Feed(framed(0, peerOpen()))
	wantUp(server, true)
	server.Feed(framed(0, closeOf(api.Fault{})))
	wantUp(server, false)

	client := made(t, config(false))
	client.Open()
	wantUp(client, false)
	client.Feed(slices.Concat(mainHeader, framed(0, peerOpen())))
	wantUp(client, true)
	wantErrno(t, "Close", client.Close(api.Fault{}), api.OK)
	wantUp(client, false)
	if over, _ := client.Over(); over {
		t.Error("it is over")
	}
}

// fitting is a fault with which a Close has just so many bytes as a frame.
func fitting(t *testing.T, size int) api.Fault {
	t.Helper()
	for n := range 4096 {
		f := api.Fault{Cond: "x", Text: long(n)}
		if len(framed(0, closeOf(f))) == size {
			return f
		}
	}
	t.Fatalf("no Close of %d bytes", size)
	return api.Fault{}
}

// 'The greatest size' (P15.4): MinFrame, till the peer's Open has come; then its MaxFrame, or api's.
func TestGreatestSize(t *testing.T) {
	waiting := func() *conn.Conn {
		c := made(t, config(false))
		c.Open()
		c.Out()
		return c
	}
	upTo := func(size int) func() *conn.Conn {
		return func() *conn.Conn {
			p := peerOpen()
			p.MaxFrame = size
			return upWith(t, configWith(true, func(c *api.ConnConfig) { c.MaxFrame = 600 }), p)
		}
	}
	for _, x := range []struct {
		again func() *conn.Conn
		size  int
	}{{waiting, 512}, {upTo(512), 512}, {upTo(513), 513}, {upTo(700), 700}, {upTo(4000), 4000}} {
		tooLong := fitting(t, x.size+1)
		wantRefused(t, "Close", x.again, api.ErrLong, func(c *conn.Conn) api.Errno { return c.Close(tooLong) })
		c := x.again()
		f := fitting(t, x.size)
		wantErrno(t, "Close", c.Close(f), api.OK)
		wantOut(t, c, framed(0, closeOf(f)))
	}
}

// 'Too long': of a peer that takes any frame api's bound holds, of frames and of performatives.
func TestGreatestSizeOfAll(t *testing.T) {
	wide := perform.Blank(api.KOpen)
	sized := func(n int) api.Perform {
		p := attachOf("l", 0, false)
		p.Props = textMap(n)
		return p
	}
	overhead := len(framed(0, sized(400000))) - 400000
	for _, x := range []struct {
		n    int
		want api.Errno
	}{{1048576 - overhead, api.OK}, {1048576 - overhead + 1, api.ErrLong}, {1048576 - overhead + 8, api.ErrLong}, {1048576 - overhead + 9, api.ErrLong}, {1048576, api.ErrLong}} {
		c := begun(t, upWith(t, config(true), wide))
		_, e := c.Attach(0, sized(x.n))
		wantErrno(t, "Attach", e, x.want)
		if x.want == api.OK {
			b := c.Out()
			if _, next, e := frame.Open(b, 0, 1048576); e != api.OK || next != 1048576 || len(b) != next {
				t.Errorf("%d bytes, error %d", next, e)
			}
		}
		wantOut(t, c)
	}
}
