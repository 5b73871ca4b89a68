package broker_test

import (
	"fmt"
	"testing"

	"longshore/api"
)

// P23.4: the time never goes back, nor above MaxTime; what is over goes by it, and what comes counts from it.
func TestTime(t *testing.T) {
	r := made(t, declare(lasting("q", 99)))
	p := r.join()
	s := p.sender("s", "queue/q")
	sent := 0
	send := func(ttl int, want string) {
		t.Helper()
		sent++
		p.sends(s, fmt.Sprint(sent), text("x", 4, lives(ttl)), accepted)
		l := r.s.Entries("q")
		if got := lying(l[len(l)-1]); got != fmt.Sprintf("%d/4 x%s", sent, want) {
			t.Fatalf("%s, want %s", got, want)
		}
	}
	tick := func(now, left int) {
		t.Helper()
		wantErrno(t, "Tick", r.b.Tick(now), api.OK)
		if n := len(r.s.Entries("q")); n != left {
			t.Fatalf("behind Tick(%d) %d are left, want %d", now, n, left)
		}
	}
	send(-1, "")
	send(100, " until 100")
	send(0, " until 0")
	tick(-1<<63, 2) // it is 0 still: what has no time at all goes
	tick(99, 2)
	send(2, " until 101")
	tick(50, 3)
	send(2, " until 101")
	tick(100, 3)
	tick(101, 1)
	send(maxWord, " until 4294967396")
	tick(maxTime-1, 1)
	send(0, " until 1125899906842623")
	send(1, " until 1125899906842624")
	send(2, " until 1125899906842624")
	tick(maxTime-1, 3)
	tick(maxTime, 1)
	send(5, " until 1125899906842624")
	tick(maxTime+1, 1)
	tick(1<<63-1, 1)
	send(maxWord, " until 1125899906842624")
	tick(0, 1)
	r.lies("q", "1/4 x")
}

// P23.4: what is held does not go by the time; it goes with the Tick behind it comes back.
func TestTimeOfWhatIsHeld(t *testing.T) {
	r := made(t, declare(lasting("q", 9)))
	p := r.join()
	s, l := p.sender("s", "queue/q"), p.receiver("r", "queue/q")
	p.credits(l, 1)
	p.wants()
	p.sendsOnly(s, "t", text("x", 4, lives(5)), true, none)
	p.wants("got 0.1 #0 x")
	wantErrno(t, "Tick", r.b.Tick(50), api.OK)
	r.lies("q", "1/4 x until 5 held 1")
	p.says(l, 0, released, true)
	p.wants()
	r.lies("q", "1/4 x until 5")
	p.credits(l, 1)
	p.wants("got 0.1 #1 x") // it is over, but no Tick has come
	p.says(l, 1, released, true)
	p.wants()
	wantErrno(t, "Tick", r.b.Tick(0), api.OK)
	r.lies("q")
}

// P23.4: what is over goes ahead of the ends' Ticks, and ahead of what is served.
func TestTickExpiresFirst(t *testing.T) {
	r := made(t, declare(passing("q", 9)))
	p := r.join()
	l := p.receiver("r", "queue/q")
	p.credits(l, 5)
	p.wants()
	over, stays := entry(1, 9, text("over", 4)), entry(2, 4, text("stays", 4))
	over.Expiry, stays.Expiry = 10, 11
	r.apply(put("q", over), put("q", stays))
	wantErrno(t, "Tick", r.b.Tick(10), api.OK)
	p.wants("got 0.0 #0 stays")
	r.lies("q", "2/4 stays until 11 held 1")
}

// P23.4: behind a Tick all is served in any case, also where nothing has happened, and drained.
func TestTickServes(t *testing.T) {
	r, p, l := waiting(t)
	wantErrno(t, "Tick", r.b.Tick(0), api.OK)
	r.lies("q", "1/4 x held 1")
	p.wants("got 0.0 #0 x")
	r.apply(put("q", entry(2, 4, text("y", 4))))
	wantErrno(t, "Tick", r.b.Tick(-5), api.OK)
	p.wants(fmt.Sprintf("got 0.%d #1 y", l))
}

// P23.4: the ends are told the time: one that hears nothing is given up, and what it held is served, once, behind the last end's Tick.
func TestTickOfEnds(t *testing.T) {
	r := made(t, declare(passing("q", 9)), put("q", entry(1, 4, text("x", 4))), put("q", entry(2, 4, text("y", 4))))
	idle := func(own, peer *api.ConnConfig) { own.Idle = 100 }
	var peers []*peer
	var links []int
	for i := range 4 {
		p := r.join()
		if i < 3 {
			p.leaves()
			p = r.join(idle)
		}
		peers, links = append(peers, p), append(links, p.receiver("r", "queue/q"))
	}
	peers[0].credits(links[0], 1)
	peers[0].wants("got 0.0 #0 x")
	peers[2].credits(links[2], 1)
	peers[2].wants("got 0.0 #0 y")
	peers[1].credits(links[1], 2)
	peers[3].credits(links[3], 2)
	r.move()
	wantErrno(t, "Tick", r.b.Tick(199), api.OK)
	wantConns(t, r.b, 1, 2, 3, 4)
	if over, _ := r.b.Over(1); over {
		t.Error("it is over too early")
	}
	wantErrno(t, "Tick", r.b.Tick(200), api.OK)
	for n, want := range []string{"close", "close", "close", "transfer transfer"} {
		if out := kinds(r.b.Out(n + 1)); out != want {
			t.Errorf("connection %d: %s, want %s", n+1, out, want)
		}
		if over, f := r.b.Over(n + 1); over != (n < 3) || over && f.Cond != "idle-timeout" {
			t.Errorf("connection %d: %v, %s", n+1, over, told(f))
		}
	}
	r.lies("q", "1/4 x held 4", "2/4 y held 4")
	wantConns(t, r.b, 1, 2, 3, 4)
}

// P23.4: an end lives on by what it writes, and by what it hears.
func TestTickSaysThatItLives(t *testing.T) {
	r := made(t)
	p := r.join(func(own, peer *api.ConnConfig) { own.Idle, peer.Idle = 100, 60 })
	for now := range 40 {
		wantErrno(t, "Tick", r.b.Tick(now*30), api.OK)
		out := r.b.Out(1)
		if string(out) != map[bool]string{true: string(alive), false: ""}[now > 0] {
			t.Fatalf("at %d: %x", now*30, out)
		}
		p.hears(out)
		p.feeds(alive)
	}
	if over, _ := r.b.Over(1); over {
		t.Error("it is over")
	}
}

// P23.4: Out hands out what was written, once; Over tells of an end; both tell nothing of a connection that there is not.
func TestOutAndOver(t *testing.T) {
	r := made(t)
	p, other := r.joinClosed(), r.joinClosed()
	p.c.Open()
	p.feeds(p.c.Out())
	if out := r.b.Out(other.n); len(out) > 0 {
		t.Errorf("of another connection: %x", out)
	}
	first, second := r.b.Out(p.n), r.b.Out(p.n)
	if kinds(first) != "open" || len(second) > 0 {
		t.Errorf("%x, %x", first, second)
	}
	p.feeds([]byte("nothing"))
	over, f := r.b.Over(p.n)
	if !over || f.Cond != "framing-error" || kinds(r.b.Out(p.n)) != "close" {
		t.Errorf("%v, %s", over, told(f))
	}
	if over, f := r.b.Over(other.n); over || told(f) != "{ }" {
		t.Errorf("%v, %s", over, told(f))
	}
	wantErrno(t, "Leave", r.b.Leave(p.n), api.OK)
	if over, f := r.b.Over(p.n); over || told(f) != "{ }" || len(r.b.Out(p.n)) > 0 {
		t.Errorf("%v, %s", over, told(f))
	}
}

// P23.14: Out, Conns and Over change nothing else: whoever asks all the time has the same as who never does.
func TestAskingChangesNothing(t *testing.T) {
	played := func(ask func(b calls)) string {
		r, p, l := waiting(t)
		s := p.attachesOnly(0, sends("s", "queue/q"))
		ask(r.b)
		r.b.Feed(p.n, p.c.Out())
		out := ""
		step := func() {
			ask(r.b)
			b := r.b.Out(p.n)
			out += lines(b)
			p.hears(b)
			ask(r.b)
		}
		step()
		p.c.Send(0, s, "t", text("y", 9), false, none)
		p.c.Settle(0, l, numbered(0), failed, false)
		b := p.c.Out()
		for i := range b {
			r.b.Feed(p.n, b[i:i+1])
			ask(r.b)
		}
		step()
		r.b.Tick(77)
		step()
		p.c.Close(api.Fault{Cond: "enough"})
		r.b.Feed(p.n, p.c.Out())
		step()
		return out + r.all()
	}
	never := played(func(b calls) {})
	always := played(func(b calls) {
		b.Conns()
		for n := range 20 {
			b.Over(n - 1)
			if n != 2 { // but its own
				b.Out(n - 1)
			}
		}
	})
	if always != never {
		t.Errorf("%s\nnever asked: %s", always, never)
	}
}
