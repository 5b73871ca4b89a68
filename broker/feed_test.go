package broker_test

import (
	"fmt"
	"slices"
	"testing"

	"longshore/api"
)

// waiting is a connection whose link has credit, and a message that came into its queue behind the broker's back: it goes out as soon as all is served.
func waiting(t *testing.T) (*rig, *peer, int) {
	t.Helper()
	r := made(t, declare(passing("q", 9)))
	p := r.join()
	l := p.receiver("r", "queue/q")
	p.credits(l, 5)
	p.wants()
	r.apply(put("q", entry(1, 4, text("x", 4))))
	return r, p, l
}

// P23.3: what brings no event about serves nothing: no bytes, a part of an item, an item of which nothing is told.
func TestServedBehindEvents(t *testing.T) {
	flow := with(api.KFlow, func(p *api.Perform) { p.NextIn, p.InWin, p.NextOut, p.OutWin = 0, 1000, 0, maxWord })
	begin := with(api.KBegin, func(p *api.Perform) { p.InWin, p.OutWin, p.HandleMax = 9, 9, 9 })
	echo := flow
	echo.Echo = true
	for i, b := range [][]byte{nil, {}, alive, alive[:1], alive[:7], framed(0, flow), framed(0, echo), slices.Concat(alive, alive, framed(0, flow), alive[:3]), framed(1, begin)[:20]} {
		r, p, _ := waiting(t)
		p.feeds(b)
		r.lies("q", "1/4 x")
		if out := kinds(r.b.Out(p.n)); out != map[bool]string{true: "flow", false: ""}[i == 6] {
			t.Errorf("bytes %d: %s", i, out)
		}
	}
	r, p, l := waiting(t)
	b := framed(1, begin)
	p.feeds(b[:len(b)-1])
	r.lies("q", "1/4 x")
	p.feeds(b[len(b)-1:])
	r.lies("q", "1/4 x held 1")
	if out := kinds(r.b.Out(p.n)); out != "begin transfer" {
		t.Error(out)
	}
	// A session's begin, a link's Flow, an end: behind each event all is served, of all connections.
	for i, event := range []func(other *peer, s int){
		func(other *peer, s int) { other.c.Begin() },
		func(other *peer, s int) { other.c.Attach(0, sends("s", "queue/q")) },
		func(other *peer, s int) { other.c.Attach(0, sends("s", "queue/none")) },
		func(other *peer, s int) { other.c.Detach(0, s, true, api.Fault{}) },
		func(other *peer, s int) { other.c.Credit(0, s, 0, false) },
		func(other *peer, s int) { other.c.End(0, api.Fault{}) },
		func(other *peer, s int) { other.c.Close(api.Fault{}) },
	} {
		r, p, l = waiting(t)
		other := r.join()
		s := other.receiver("r", "queue/q", filtered("priority > 9"))
		p.wants(fmt.Sprintf("got 0.%d #0 x", l))
		r.apply(put("q", entry(2, 4, text("y", 4))))
		event(other, s)
		r.lies("q", "1/4 x held 1", "2/4 y")
		r.move()
		r.lies("q", "1/4 x held 1", "2/4 y held 1")
		p.wants(fmt.Sprintf("got 0.%d #1 y", l))
		if i == 6 {
			other.wantsSeen("close ")
		}
	}
}

// P23.3: the items of a chunk are taken one by one: all is served behind each, ahead of the next one.
func TestItemByItem(t *testing.T) {
	in := func() (*rig, *peer, int) {
		r := made(t, declare(passing("q", 9)), put("q", entry(1, 4, text("x", 4))), put("q", entry(2, 4, text("y", 4))))
		p := r.join()
		return r, p, p.receiver("r", "queue/q")
	}
	// Credit and Detach in one chunk: a message goes out between them, and comes back.
	r, p, l := in()
	p.credits(l, 1)
	p.c.Detach(0, l, true, api.Fault{})
	p.feeds(p.c.Out())
	if out := kinds(r.b.Out(p.n)); out != "transfer detach" {
		t.Errorf("credit, Detach: %s", out)
	}
	r.lies("q", "1/4 x", "2/4 y")
	// Credit and an End.
	r, p, l = in()
	p.credits(l, 2)
	p.c.End(0, api.Fault{})
	p.feeds(p.c.Out())
	if out := kinds(r.b.Out(p.n)); out != "transfer transfer end" {
		t.Errorf("credit, End: %s", out)
	}
	r.lies("q", "1/4 x", "2/4 y")
	// Credit, and no credit: what was sent stays sent.
	r, p, l = in()
	p.credits(l, 1)
	p.credits(l, 0)
	p.credits(l, 1)
	p.credits(l, 1) // of two at most: the peer's count has not gone on
	p.feeds(p.c.Out())
	if out := kinds(r.b.Out(p.n)); out != "transfer" {
		t.Errorf("credit and none: %s", out)
	}
	// Two senders in one chunk, of which the first one's message is accepted by its receiver ahead of the other one's.
	r = made(t, declare(passing("q", 1)))
	p = r.join()
	s, l := p.sender("s", "queue/q"), p.receiver("r", "queue/q", settling)
	p.credits(l, 5)
	p.sendsOnly(s, "a", text("a", 4), false, none)
	p.sendsOnly(s, "b", text("b", 4), false, none)
	p.wants(`state 0.0 "a" { Kind:36 } settled`, "got 0.1 #0 a settled", `state 0.0 "b" { Kind:36 } settled`, "got 0.1 #1 b settled")
	r.lies("q")
}

// P23.3: a fault of the stream is done like an item: behind all that the items ahead of it have brought about, and served by itself.
func TestFaultOfTheStream(t *testing.T) {
	for i, fault := range [][]byte{{0, 0, 0, 7}, {0xff, 0, 0, 0}, mainHeader, {0, 0, 0, 8, 1}, {0, 0, 0, 8, 2, 1}} {
		for cut := range len(fault) {
			r := made(t, declare(passing("q", 9)), put("q", entry(1, 4, text("x", 4))))
			p, other := r.join(), r.join()
			l, k := p.receiver("r", "queue/q"), other.receiver("r", "queue/q")
			other.credits(k, 1)
			p.credits(l, 1)
			b := append(p.c.Out(), fault...)
			p.feeds(b[:len(b)-cut])
			p.feeds(b[len(b)-cut:])
			if out := kinds(r.b.Out(p.n)); out != "transfer close" {
				t.Errorf("fault %d, cut %d: %s", i, cut, out)
			}
			if over, f := r.b.Over(p.n); !over || f.Cond != "framing-error" {
				t.Errorf("fault %d, cut %d: %v, %s", i, cut, over, told(f))
			}
			p.lost()
			other.wants(fmt.Sprintf("got 0.%d #0 x", k))
			r.lies("q", "1/4 x held 2")
			// It takes bytes still, which do nothing.
			before := r.all()
			for _, b := range [][]byte{nil, mainHeader, alive} {
				p.feeds(b)
			}
			if after := r.all(); after != before || len(r.b.Out(p.n)) > 0 {
				t.Errorf("%s\nbefore: %s", after, before)
			}
		}
	}
}

// P23.3: all that one item has brought about is done, one behind the other: a Disposition of several deliveries, of several links.
func TestManyEventsOfAnItem(t *testing.T) {
	r := made(t, declare(dying(passing("q", 9), "d", 0)), declare(passing("d", 9)))
	for i := range 6 {
		r.apply(put("q", entry(i+1, 4, text(fmt.Sprint(i+1), 4))))
	}
	p := r.join()
	a, b := p.receiver("a", "queue/q"), p.receiver("b", "queue/q", copying)
	p.credits(a, 3)
	p.credits(b, 2)
	p.wants("got 0.0 #0 1", "got 0.0 #1 2", "got 0.0 #2 3", "got 0.1 #0 4", "got 0.1 #1 5")
	p.feeds(framed(0, api.Perform{Kind: api.KDisposition, Receiver: true, First: 0, Last: 9, Settled: true, State: rejected("no")}))
	r.lies("q", "4/4 4", "5/4 5", "6/4 6")
	r.lies("d", "7/4 1", "8/4 2", "9/4 3")
	p.wants()
	// A state that may not be, among several: the link fails with it; those ahead of it are done, all others go back.
	r = made(t, declare(passing("q", 9)))
	for i := range 5 {
		r.apply(put("q", entry(i+1, 4, text(fmt.Sprint(i+1), 4))))
	}
	p = r.join()
	second := func(p *api.Perform) { p.RcvMode = api.RcvSecond }
	a = p.receiver("a", "queue/q", second)
	b = p.receiver("b", "queue/q")
	p.credits(b, 1)
	p.wants("got 0.1 #0 1")
	p.credits(a, 2)
	p.wants("got 0.0 #0 2", "got 0.0 #1 3")
	p.credits(b, 2)
	p.wants("got 0.1 #1 4", "got 0.1 #2 5")
	p.feeds(framed(0, api.Perform{Kind: api.KDisposition, Receiver: true, First: 0, Last: 4, Settled: true, State: accepted}))
	r.lies("q", "2/4 2", "3/4 3")
	p.wants("detach 0.0 not-allowed")
}

// P23.3: no connection is the first error, ahead of a store that is down; it changes nothing.
func TestFeedOfNone(t *testing.T) {
	r, p, _ := waiting(t)
	r.b.Join(server())
	wantErrno(t, "Leave", r.b.Leave(2), api.OK)
	p.wants("got 0.0 #0 x") // Leave has served it
	before := r.all()
	for _, n := range []int{0, -1, 2, 3, 17, 1 << 62, -1 << 63} {
		for _, b := range [][]byte{nil, mainHeader, {1}} {
			wantErrno(t, "Feed", r.b.Feed(n, b), api.ErrNoConn)
		}
	}
	if after := r.all(); after != before {
		t.Errorf("%s\nbefore: %s", after, before)
	}
}

// P23.5: an end is opened when the peer's Open has come, not earlier; sessions begin and end without anything else.
func TestOpensAndSessions(t *testing.T) {
	r := made(t)
	p := r.joinClosed()
	p.c.Open()
	b := p.c.Out()
	p.feeds(b[:8])
	if out := r.b.Out(1); string(out) != string(mainHeader) {
		t.Fatalf("%x", out)
	}
	p.feeds(b[8 : len(b)-1])
	if out := r.b.Out(1); len(out) > 0 {
		t.Fatalf("%x", out)
	}
	p.feeds(b[len(b)-1:])
	out := r.b.Out(1)
	if kinds(out) != "open" {
		t.Fatal(kinds(out))
	}
	p.hears(mainHeader)
	p.hears(out)
	p.wants("open")
	for i := range 4 {
		p.begin(fmt.Sprint("begin ", i))
	}
	for i := range 4 {
		wantErrno(t, "End", p.c.End(i, api.Fault{}), api.OK)
		p.wants()
		p.begin(fmt.Sprint("begin ", i))
	}
	before := stored(r.s)
	wantErrno(t, "Close", p.c.Close(api.Fault{Cond: "enough"}), api.OK)
	p.wants("close ")
	if over, f := r.b.Over(1); !over || f.Cond != "enough" || stored(r.s) != before {
		t.Errorf("Over: %v, %s", over, told(f))
	}
	wantConns(t, r.b, 1) // till Leave
}
