package conn_test

import (
	"slices"
	"testing"

	"longshore/api"
	"longshore/conn"
	"longshore/guard"
)

func users() []api.User {
	return []api.User{{Name: "ann", Secret: "x"}, {Name: "bob"}}
}

func hello() []byte { return guard.NewServer(nil, 0).Hello() }

func guardedServer() api.ConnConfig {
	return configWith(true, func(c *api.ConnConfig) { c.Guarded, c.Users, c.Seed = true, users(), 7 })
}

func guardedClient(mech string, u api.User) api.ConnConfig {
	return configWith(false, func(c *api.ConnConfig) { c.Guarded, c.Mech, c.User = true, mech, u })
}

// row is what two sides of the guard say to each other, from Hello on, in turns.
func row(mech string, u api.User) [][]byte {
	s, c := guard.NewServer(users(), 7), guard.NewClient(mech, u)
	l := [][]byte{s.Hello()}
	for {
		said, e := c.On(l[len(l)-1])
		if e != api.OK || len(said) == 0 {
			return l
		}
		answer, _ := s.On(said)
		l = append(l, said, answer)
	}
}

// P15.3: at a server: each mechanism; who comes in is told, then a main header must come, and all goes on as without a guard.
func TestGuardedServer(t *testing.T) {
	for _, x := range []struct {
		mech string
		user api.User
		who  string
	}{{"open", api.User{}, "guest"}, {"plain", users()[0], "ann"}, {"plain", users()[1], "bob"}, {"proof", users()[0], "ann"}, {"proof", users()[1], "bob"}} {
		for _, asked := range []bool{false, true} {
			c := made(t, guardedServer())
			if asked {
				c.Open()
			}
			l := row(x.mech, x.user)
			wantEvents(t, c.Feed(guardHeader))
			wantOut(t, c, guardHeader, guarded(l[0]))
			for i := 1; i < len(l); i += 2 {
				got := c.Feed(guarded(l[i]))
				if i+2 < len(l) {
					wantEvents(t, got)
				} else {
					wantEvents(t, got, api.Event{Kind: api.EvUser, User: x.who})
				}
				wantOut(t, c, guarded(l[i+1]))
			}
			wantErrno(t, "Close", c.Close(api.Fault{}), api.ErrState)
			wantEvents(t, c.Feed(mainHeader))
			if asked {
				wantOut(t, c, mainHeader, framed(0, openOf(guardedServer())))
			} else {
				wantOut(t, c, mainHeader)
			}
			wantEvents(t, c.Feed(framed(0, peerOpen())), evOf(api.EvOpen, 0, 0, peerOpen()))
		}
	}
}

// P15.3: at a client: each mechanism; when it came in it writes the main header and its Open.
func TestGuardedClient(t *testing.T) {
	for _, mech := range []string{"open", "plain", "proof"} {
		own := guardedClient(mech, users()[0])
		c := made(t, own)
		c.Open()
		wantOut(t, c, guardHeader)
		wantEvents(t, c.Feed(guardHeader))
		wantOut(t, c)
		l := row(mech, users()[0])
		for i := 0; i < len(l); i += 2 {
			wantEvents(t, c.Feed(guarded(l[i])))
			if i+1 < len(l) {
				wantOut(t, c, guarded(l[i+1]))
			}
		}
		wantOut(t, c, mainHeader, framed(0, openOf(own)))
		wantEvents(t, c.Feed(mainHeader))
		wantOut(t, c)
		wantEvents(t, c.Feed(framed(0, peerOpen())), evOf(api.EvOpen, 0, 0, peerOpen()))
		if !c.Up() {
			t.Error("it is not up")
		}
	}
}

// P15.3: behind the guard another header than the main one is not awaited.
func TestHeadersBehindTheGuard(t *testing.T) {
	l := row("open", api.User{})
	for _, next := range [][]byte{guardHeader, mainHeader} {
		s := made(t, guardedServer())
		s.Feed(slices.Concat(guardHeader, guarded(l[1])))
		s.Out()
		c := made(t, guardedClient("open", api.User{}))
		c.Open()
		c.Feed(slices.Concat(guardHeader, guarded(l[0]), guarded(l[2])))
		c.Out()
		if string(next) == string(mainHeader) {
			wantEvents(t, s.Feed(next))
			wantOut(t, s, mainHeader)
			wantEvents(t, c.Feed(next))
			wantOut(t, c)
			continue
		}
		wantEvents(t, s.Feed(next), evClose(faultOf("not-allowed")))
		wantOut(t, s, mainHeader)
		wantOver(t, s, faultOf("not-allowed"))
		wantEvents(t, c.Feed(next), evClose(faultOf("not-allowed")))
		wantOut(t, c)
		wantOver(t, c, faultOf("not-allowed"))
	}
}

// P15.3: who says what the guard refuses (also a frame without a body) is not let in: nothing is written; but of who has not the secret the outcome.
func TestGuardRefuses(t *testing.T) {
	plain, proof := row("plain", api.User{Name: "eve", Secret: "x"}), row("proof", api.User{Name: "ann", Secret: "y"})
	magic := []byte("\x00\x53\x41\xc0\x08\x01\xa3\x05magic")
	for _, x := range []struct {
		bodies [][]byte
		answer []byte // to the last one
	}{
		{[][]byte{nil}, nil}, {[][]byte{{0, 0, 0}}, nil}, {[][]byte{{0x40}}, nil}, {[][]byte{magic}, nil}, {[][]byte{proof[0]}, nil}, {[][]byte{proof[2]}, nil}, {[][]byte{proof[3]}, nil},
		{[][]byte{plain[1]}, plain[2]}, {[][]byte{proof[1], proof[3]}, proof[4]}, {[][]byte{proof[1], proof[1]}, nil}, {[][]byte{proof[1], nil}, nil},
	} {
		c := made(t, guardedServer())
		c.Open()
		c.Feed(guardHeader)
		last := len(x.bodies) - 1
		for _, body := range x.bodies[:last] {
			wantEvents(t, c.Feed(guarded(body)))
		}
		c.Out()
		wantEvents(t, c.Feed(slices.Concat(guarded(x.bodies[last]), mainHeader)), evClose(faultOf("unauthorized")))
		if len(x.answer) > 0 {
			wantOut(t, c, guarded(x.answer))
		} else {
			wantOut(t, c)
		}
		wantOver(t, c, faultOf("unauthorized"))
	}
	for _, x := range [][][]byte{{nil}, {{0x40}}, {plain[1]}, {plain[2]}, {proof[0], nil}, {proof[0], plain[2]}, {proof[0], proof[0]}, {proof[0], proof[2], proof[2]}, {proof[0], proof[2], proof[4]}} {
		c := made(t, guardedClient("proof", users()[0]))
		c.Open()
		c.Feed(guardHeader)
		last := len(x) - 1
		for _, body := range x[:last] {
			wantEvents(t, c.Feed(guarded(body)))
		}
		c.Out()
		wantEvents(t, c.Feed(guarded(x[last])), evClose(faultOf("unauthorized")))
		wantOut(t, c)
		wantOver(t, c, faultOf("unauthorized"))
	}
}

// P15.3: behind the guard's end a header must come: a guard frame is a fault of the stream; so is a main frame ahead of it.
func TestFramesWhereTheGuardIsNot(t *testing.T) {
	l := row("open", api.User{})
	s := made(t, guardedServer())
	s.Feed(slices.Concat(guardHeader, guarded(l[1])))
	s.Out()
	wantEvents(t, s.Feed(guarded(l[1])), evClose(faultOf("framing-error")))
	wantOut(t, s)

	s = made(t, guardedServer())
	s.Feed(guardHeader)
	s.Out()
	wantEvents(t, s.Feed(framed(0, peerOpen())), evClose(faultOf("framing-error")))
	wantOut(t, s)

	// A client has written its main header then: it says why.
	c := made(t, guardedClient("open", api.User{}))
	c.Open()
	c.Feed(slices.Concat(guardHeader, guarded(l[0]), guarded(l[2])))
	c.Out()
	wantFailed(t, c, c.Feed(guarded(l[2])), "framing-error")
}

// P15.3: a guarded end and one that is not guarded don't come together; nor does one without the secret.
func TestGuardedAndNot(t *testing.T) {
	for _, x := range []struct {
		client, server api.ConnConfig
		want           string
	}{
		{guardedClient("open", api.User{}), config(true), "not-allowed"},
		{config(false), guardedServer(), "not-allowed"},
		{guardedClient("plain", api.User{Name: "ann"}), guardedServer(), "unauthorized"},
		{guardedClient("proof", api.User{Name: "eve"}), guardedServer(), "unauthorized"},
	} {
		a, b := made(t, x.client), made(t, x.server)
		a.Open()
		b.Open()
		meet(a, b)
		wantOver(t, a, faultOf(x.want))
		wantOver(t, b, faultOf(x.want))
	}
}

// meet brings the bytes of two ends over, until there are none.
func meet(a, b *conn.Conn) (atA, atB []api.Event) {
	for {
		toB, toA := a.Out(), b.Out()
		if len(toA)+len(toB) == 0 {
			return atA, atB
		}
		atB = append(atB, b.Feed(toB)...)
		atA = append(atA, a.Feed(toA)...)
	}
}
