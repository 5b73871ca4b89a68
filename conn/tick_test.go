package conn_test

import (
	"math"
	"slices"
	"testing"

	"longshore/api"
	"longshore/conn"
)

// idling is an end that is up, with its own Idle and its peer's (-1: none); its Open was written at the time 100, when the peer's Open came.
func idling(t *testing.T, server bool, own, peer int) *conn.Conn {
	t.Helper()
	c := made(t, configWith(server, func(c *api.ConnConfig) { c.Idle = own }))
	p := peerOpen()
	p.Idle = peer
	wantEvents(t, c.Tick(100))
	wantErrno(t, "Open", c.Open(), api.OK)
	c.Feed(slices.Concat(mainHeader, framed(0, p)))
	if !c.Up() {
		t.Fatal("it is not up")
	}
	c.Out()
	return c
}

// wantQuiet wants that nothing happens at a time, and that nothing is written.
func wantQuiet(t *testing.T, c *conn.Conn, now int) {
	t.Helper()
	wantEvents(t, c.Tick(now))
	wantOut(t, c)
}

func wantAlive(t *testing.T, c *conn.Conn, now int) {
	t.Helper()
	wantEvents(t, c.Tick(now))
	wantOut(t, c, alive)
}

// P15.6: idle-timeout just at twice the own Idle behind what was heard last.
func TestIdleTimeout(t *testing.T) {
	for _, server := range []bool{false, true} {
		for _, idle := range []int{1, 2, 3, 10, maxWord} {
			c := idling(t, server, idle, -1)
			wantQuiet(t, c, 100)
			wantQuiet(t, c, 100+2*idle-1)
			wantFailed(t, c, c.Tick(100+2*idle), "idle-timeout")

			c = idling(t, server, idle, -1)
			wantFailed(t, c, c.Tick(100+2*idle+7), "idle-timeout")
		}
		c := idling(t, server, 0, -1)
		wantQuiet(t, c, maxTime)
	}
}

// P15.6: each byte that comes, also of an item that is not whole, puts the bound off; no byte does not.
func TestHeard(t *testing.T) {
	c := idling(t, true, 10, -1)
	wantQuiet(t, c, 110)
	wantEvents(t, c.Feed(alive[:1]))
	wantQuiet(t, c, 129)
	wantEvents(t, c.Feed(alive[1:3]))
	wantQuiet(t, c, 148)
	wantEvents(t, c.Feed(nil))
	wantFailed(t, c, c.Tick(149), "idle-timeout")
}

// P15.6: till its Open is written nothing runs out; from then on the bound counts from that.
func TestHeardAtTheOpen(t *testing.T) {
	c := made(t, configWith(true, func(c *api.ConnConfig) { c.Idle = 10 }))
	wantQuiet(t, c, 50)
	c.Feed(mainHeader)
	c.Out()
	wantQuiet(t, c, 500)
	c.Open()
	c.Out()
	wantQuiet(t, c, 519)
	wantFailed(t, c, c.Tick(520), "idle-timeout")

	client := made(t, configWith(false, func(c *api.ConnConfig) { c.Idle = 10 }))
	wantQuiet(t, client, 1000)
	client.Open()
	client.Out()
	wantQuiet(t, client, 1019)
	wantFailed(t, client, client.Tick(1020), "idle-timeout")

	guards := made(t, configWith(false, func(c *api.ConnConfig) { c.Idle, c.Guarded, c.Mech = 10, true, "open" }))
	guards.Open()
	guards.Out()
	wantQuiet(t, guards, 5000)
}

// P15.6: a frame without a body just at half of the peer's Idle (rounded down) behind what was written last, again and again.
func TestSaysThatItLives(t *testing.T) {
	for _, server := range []bool{false, true} {
		for _, idle := range []int{2, 3, 9, 10, 11, maxWord} {
			c := idling(t, server, 0, idle)
			half := idle / 2
			wantQuiet(t, c, 100+half-1)
			wantAlive(t, c, 100+half)
			wantQuiet(t, c, 100+2*half-1)
			wantAlive(t, c, 100+2*half+3)
			wantQuiet(t, c, 100+3*half+2)
			wantAlive(t, c, 100+3*half+3)
		}
		for _, idle := range []int{-1, 0} {
			c := idling(t, server, 0, idle)
			wantQuiet(t, c, maxTime)
		}
		// Half of 1 is 0: each Tick has one.
		c := idling(t, server, 0, 1)
		for range 3 {
			wantAlive(t, c, 100)
			wantAlive(t, c, 0)
		}
	}
}

// P15.6: whatever is written puts that off, what comes does not.
func TestSaid(t *testing.T) {
	c := idling(t, true, 0, 20)
	wantQuiet(t, c, 109)
	c.Begin()
	c.Out()
	wantQuiet(t, c, 118)
	c.Feed(alive)
	wantAlive(t, c, 119)
	wantErrno(t, "Close", c.Close(api.Fault{}), api.OK)
	c.Out()
	wantQuiet(t, c, 128)
	wantAlive(t, c, 129)
}

// P15.6: a server whose own Open was not written says nothing.
func TestSaysNothingAheadOfItsOpen(t *testing.T) {
	c := made(t, configWith(true, func(c *api.ConnConfig) { c.Idle = 5 }))
	p := peerOpen()
	p.Idle = 1
	c.Feed(slices.Concat(mainHeader, framed(0, p)))
	c.Out()
	wantQuiet(t, c, 1000)
	c.Open()
	c.Out()
	wantAlive(t, c, 1000)
	wantFailed(t, c, c.Tick(1010), "idle-timeout")
}

// P15.6: where both bounds are reached, it fails, and does not say that it lives; it fails also behind its Close, without a second one.
func TestIdleTimeoutFirst(t *testing.T) {
	c := idling(t, true, 10, 4)
	wantFailed(t, c, c.Tick(120), "idle-timeout")
	c = idling(t, true, 10, 4)
	wantErrno(t, "Close", c.Close(faultOf("x")), api.OK)
	c.Out()
	wantEvents(t, c.Tick(120), evClose(faultOf("idle-timeout")))
	wantOut(t, c)
	wantOver(t, c, faultOf("idle-timeout"))
}

// P15.6: the time never goes back, and not beyond MaxTime.
func TestTimes(t *testing.T) {
	c := idling(t, true, 0, 10)
	for _, now := range []int{99, 0, -1, math.MinInt, 104} {
		wantQuiet(t, c, now)
	}
	wantAlive(t, c, 105)
	for _, now := range []int{100, math.MinInt, 109} {
		wantQuiet(t, c, now)
	}
	wantAlive(t, c, math.MaxInt)
	// It is at MaxTime now, and stays there.
	for _, now := range []int{maxTime + 5, math.MaxInt, maxTime, 0} {
		wantQuiet(t, c, now)
	}
	for _, last := range []int{maxTime, maxTime + 1, math.MaxInt} {
		c = idling(t, true, 10, -1)
		wantQuiet(t, c, 119)
		c.Feed(alive)
		c.Tick(maxTime - 20)
		if over, _ := c.Over(); !over {
			t.Fatal("it is not over")
		}
		c = made(t, configWith(false, func(c *api.ConnConfig) { c.Idle = 10 }))
		wantQuiet(t, c, maxTime-20)
		c.Open()
		c.Out()
		wantQuiet(t, c, maxTime-1)
		wantFailed(t, c, c.Tick(last), "idle-timeout")
		// One whose time would run out beyond MaxTime stays.
		c = made(t, configWith(false, func(c *api.ConnConfig) { c.Idle = 10 }))
		wantQuiet(t, c, maxTime-19)
		c.Open()
		c.Out()
		wantQuiet(t, c, last)
	}
}
