package broker_test

import (
	"fmt"
	"slices"
	"strings"
	"testing"

	"longshore/api"
	"longshore/broker"
)

// P23.1: of no store there is no broker; of one there is one without connections, whose time is 0.
func TestNew(t *testing.T) {
	if broker.New(nil) != nil {
		t.Error("New(nil)")
	}
	r := made(t, declare(passing("q", 9)))
	before := stored(r.s) + disked(r.d)
	b := broker.New(r.s)
	r.b = b
	wantConns(t, b)
	for _, n := range []int{0, 1, -1, 1 << 62} {
		wantErrno(t, "Feed", b.Feed(n, mainHeader), api.ErrNoConn)
		wantErrno(t, "Leave", b.Leave(n), api.ErrNoConn)
		over, f := b.Over(n)
		if len(b.Out(n)) > 0 || over || told(f) != "{ }" {
			t.Errorf("connection %d: %v, %s", n, over, told(f))
		}
	}
	if after := stored(r.s) + disked(r.d); after != before {
		t.Errorf("%s\nbefore: %s", after, before)
	}
	p := r.join()
	p.sends(p.sender("s", "queue/q"), "t", text("x", 4, lives(7)), accepted)
	r.lies("q", "1/4 x until 7")
}

func wantConns(t *testing.T, b calls, want ...int) {
	t.Helper()
	if got := b.Conns(); !slices.Equal(got, want) {
		t.Fatalf("Conns: %v, want %v", got, want)
	}
}

// serverWith is a server's configuration in which something is changed.
func serverWith(turn func(c *api.ConnConfig)) api.ConnConfig {
	c := server()
	turn(&c)
	return c
}

// noServers are configurations of which no end of a server can be made.
func noServers() []api.ConnConfig {
	return []api.ConnConfig{
		{},
		client(),
		serverWith(func(c *api.ConnConfig) { c.Server = false }),
		serverWith(func(c *api.ConnConfig) { c.Server, c.Id = false, "" }),
		serverWith(func(c *api.ConnConfig) { c.Id = "" }),
		serverWith(func(c *api.ConnConfig) { c.Id = strings.Repeat("x", 65) }),
		serverWith(func(c *api.ConnConfig) { c.Host = "\xff" }),
		serverWith(func(c *api.ConnConfig) { c.MaxFrame = 511 }),
		serverWith(func(c *api.ConnConfig) { c.MaxFrame = maxFrame + 1 }),
		serverWith(func(c *api.ConnConfig) { c.ChannelMax = -1 }),
		serverWith(func(c *api.ConnConfig) { c.Idle = -1 }),
		serverWith(func(c *api.ConnConfig) { c.Window = 0 }),
		serverWith(func(c *api.ConnConfig) { c.Guarded, c.Users = true, []api.User{{Name: "a"}, {Name: "a"}} }),
	}
}

// P23.2: Join of what no server's end can be made of is refused, also where there is no room; it is a server's that counts.
func TestJoinIsRefused(t *testing.T) {
	r := made(t)
	for range maxConns + 1 {
		before := r.all()
		for i, c := range noServers() {
			if n, e := r.b.Join(c); n != 0 || e != api.ErrArg {
				t.Fatalf("Join of configuration %d: %d, %d", i, n, e)
			}
		}
		if after := r.all(); after != before {
			t.Fatalf("%s\nbefore: %s", after, before)
		}
		r.b.Join(server())
	}
	for _, turn := range []func(c *api.ConnConfig){
		func(c *api.ConnConfig) { c.MaxFrame, c.Window = 512, 1 },
		func(c *api.ConnConfig) { c.MaxFrame, c.Window, c.ChannelMax = maxFrame, 65535, 65535 },
		func(c *api.ConnConfig) { c.Guarded, c.Users, c.Seed = true, []api.User{{Name: "a"}}, -7 },
		func(c *api.ConnConfig) { c.Mech, c.User.Name = "none", "\xff" }, // a client's
	} {
		wantErrno(t, "Leave", r.b.Leave(3), api.OK)
		if n, e := r.b.Join(serverWith(turn)); n != 3 || e != api.OK {
			t.Errorf("Join: %d, %d", n, e)
		}
	}
}

// P23.2: a connection's number is the least one from 1 on that none has; there are 16 at most.
func TestNumbersOfConnections(t *testing.T) {
	b := made(t).b
	join := func(want int, e api.Errno) {
		t.Helper()
		if n, got := b.Join(server()); n != want || got != e {
			t.Fatalf("Join: %d, %d, want %d, %d", n, got, want, e)
		}
	}
	var all []int
	for n := range maxConns {
		wantConns(t, b, all...)
		join(n+1, api.OK)
		all = append(all, n+1)
	}
	wantConns(t, b, all...)
	join(0, api.ErrBrokers)
	for _, n := range []int{7, 3, 16, 1} {
		wantErrno(t, "Leave", b.Leave(n), api.OK)
		wantErrno(t, "Leave again", b.Leave(n), api.ErrNoConn)
		wantErrno(t, "Feed", b.Feed(n, nil), api.ErrNoConn)
	}
	wantConns(t, b, 2, 4, 5, 6, 8, 9, 10, 11, 12, 13, 14, 15)
	for _, n := range []int{1, 3, 7, 16} {
		join(n, api.OK)
	}
	join(0, api.ErrBrokers)
	wantConns(t, b, all...)
}

// P23.2: a new end is told the time: what it hears first, it hears then.
func TestJoinIsToldTheTime(t *testing.T) {
	r := made(t)
	wantErrno(t, "Tick", r.b.Tick(5000), api.OK)
	p := r.join(func(own, peer *api.ConnConfig) { own.Idle, peer.Idle = 100, 100 })
	wantErrno(t, "Tick", r.b.Tick(5049), api.OK) // said at 5000: half of the peer's Idle is not over
	p.wants()
	wantErrno(t, "Tick", r.b.Tick(5199), api.OK)
	p.wants()
	if over, _ := r.b.Over(1); over {
		t.Error("it is over")
	}
	wantErrno(t, "Tick", r.b.Tick(5400), api.OK)
	p.wants("close idle-timeout")
}

// P23.2: ends are made of the configuration that is handed in, each of its own.
func TestEndsAreOfTheirConfigurations(t *testing.T) {
	r := made(t)
	for i, c := range []api.ConnConfig{
		{Id: "one", Host: "h", Server: true, MaxFrame: 512, ChannelMax: 0, Window: 1},
		{Id: "two", Server: true, MaxFrame: 2048, ChannelMax: 7, Idle: 60, Window: 3},
	} {
		p := r.joinClosed(func(own, peer *api.ConnConfig) { *own = c })
		p.c.Open()
		wantErrno(t, "Feed", r.b.Feed(p.n, p.c.Out()), api.OK)
		idle := c.Idle
		if idle == 0 {
			idle = -1
		}
		want := with(api.KOpen, func(o *api.Perform) {
			o.Id, o.Host, o.MaxFrame, o.ChannelMax, o.Idle = c.Id, c.Host, c.MaxFrame, c.ChannelMax, idle
		})
		out := r.b.Out(p.n)
		if got := performs(out); string(out[:8]) != string(mainHeader) || len(got) != 1 || told(got[0]) != told(want) {
			t.Errorf("%d: %s, want %s", i, lines(out), told(want))
		}
	}
}

// P23.2: through the guard who may come in comes in, others don't; whatever they do there, nothing is served by it but links.
func TestGuarded(t *testing.T) {
	for _, mech := range []string{"open", "plain", "proof"} {
		for _, secret := range []string{"x", "y"} {
			r := made(t, declare(passing("q", 9)))
			p := r.joinClosed(func(own, peer *api.ConnConfig) {
				own.Guarded, own.Users, own.Seed = true, []api.User{{Name: "ann", Secret: "x"}}, 7
				peer.Guarded, peer.Mech, peer.User = true, mech, api.User{Name: "ann", Secret: secret}
			})
			p.c.Open()
			if mech == "open" || secret == "x" {
				p.wants("open")
				p.begin("begin 0")
				p.sends(p.sender("s", "queue/q"), "t", text("x", 4), accepted)
				continue
			}
			p.wants("close unauthorized")
			if over, f := r.b.Over(1); !over || f.Cond != "unauthorized" {
				t.Errorf("Over: %v, %s", over, told(f))
			}
		}
	}
}

// P23.2: Leave of a connection with links of either kind: what they hold is free, their private queues are gone, and all is served; of the others nothing is changed.
func TestLeave(t *testing.T) {
	r := made(t, declare(passing("q", 9)))
	p, other := r.join(), r.join()
	p.sender("s", "queue/q")
	wantErrno(t, "Leave", r.b.Leave(0), api.ErrNoConn)
	wantErrno(t, "Leave", r.b.Leave(3), api.ErrNoConn)
	p.begin("begin 1")
	first := p.receiver("a", "queue/q")
	dyn := p.attachesAt(1, receives("b", "", dynamic), "attach #")
	p.attachesAt(1, receives("c", "topic/a.#"), "attach #")
	txns := p.sender("t", "txns")
	p.sends(txns, "d", declaring(), api.State{Kind: api.KDeclared, Txn: "t1"})
	s := other.sender("s", "queue/q")
	for i := range 4 {
		other.sends(s, "t", text(fmt.Sprint(i), 4), accepted)
	}
	toPrivate := other.sender("d", "queue/tmp-1")
	other.sends(toPrivate, "t", text("private", 4), accepted)
	wantErrno(t, "Credit", p.c.Credit(1, dyn, 1, false), api.OK)
	p.credits(first, 2)
	p.wants(fmt.Sprintf("got 1.%d #0 private", dyn), "got 0.1 #0 0", "got 0.1 #1 1")
	l := other.receiver("r", "queue/q")
	other.credits(l, 3)
	other.wants(fmt.Sprintf("got 0.%d #0 2", l), fmt.Sprintf("got 0.%d #1 3", l))
	r.queues("q", "sub-2", "tmp-1")
	p.leaves()
	wantConns(t, r.b, 2)
	other.wants(fmt.Sprintf("got 0.%d #2 0", l)) // served by Leave
	r.queues("q")
	r.lies("q", "1/4 0 held 4", "2/4 1", "3/4 2 held 4", "4/4 3 held 4")
	if len(r.s.Bindings()) > 0 {
		t.Errorf("%v", r.s.Bindings())
	}
	// Its transaction is nobody's any more, though the next connection has its number.
	p = r.join()
	if p.n != 1 {
		t.Fatal(p.n)
	}
	p.sends(p.sender("t", "txns"), "d", discharging("t1", false), rejected("unknown-id"))
}

// P23.2, P23.10: when one leaves, what it had done in a transaction that was not discharged has not happened.
func TestLeaveDropsTransactions(t *testing.T) {
	r := made(t, declare(passing("q", 9)), put("q", entry(1, 4, text("x", 4))))
	p, other := r.join(), r.join()
	txns, s, l := p.sender("t", "txns"), p.sender("s", "queue/q"), p.receiver("r", "queue/q")
	for i := range maxTxns {
		p.sends(txns, "d", declaring(), api.State{Kind: api.KDeclared, Txn: fmt.Sprint("t", i+1)})
	}
	otherTxns := other.sender("t", "txns")
	other.sends(otherTxns, "d", declaring(), rejected("resource-limit-exceeded"))
	p.credits(l, 1)
	p.wants("got 0.2 #0 x")
	p.says(l, 0, within("t1", accepted), false)
	p.wants("state 0.2 #0 " + told(within("t1", accepted)) + " settled")
	p.sendsAs(s, "y", text("y", 4), within("t1"), within("t1", accepted))
	p.leaves()
	r.lies("q", "1/4 x")
	for i := range maxTxns {
		other.sends(otherTxns, "d", declaring(), api.State{Kind: api.KDeclared, Txn: fmt.Sprint("t", maxTxns+i+1)})
	}
}
