package conn_test

import (
	"fmt"
	"math"
	"testing"

	"longshore/api"
	"longshore/conn"
)

// P15.1: each field at its bounds, and one past them; of a client and of a server, guarded and not.
func TestNewBounds(t *testing.T) {
	type turn = func(c *api.ConnConfig)
	good := map[string]turn{
		"as it is": func(c *api.ConnConfig) {}, "Id 1": func(c *api.ConnConfig) { c.Id = "\x00" }, "Id 64": func(c *api.ConnConfig) { c.Id = long(64) }, "Id text": func(c *api.ConnConfig) { c.Id = "\u20ac" },
		"Host 64": func(c *api.ConnConfig) { c.Host = long(64) }, "Host text": func(c *api.ConnConfig) { c.Host = "\u00e9" },
		"MaxFrame 512": func(c *api.ConnConfig) { c.MaxFrame = 512 }, "MaxFrame 1048576": func(c *api.ConnConfig) { c.MaxFrame = 1048576 },
		"ChannelMax 0": func(c *api.ConnConfig) { c.ChannelMax = 0 }, "ChannelMax 65535": func(c *api.ConnConfig) { c.ChannelMax = 65535 },
		"Idle 0": func(c *api.ConnConfig) { c.Idle = 0 }, "Idle 1": func(c *api.ConnConfig) { c.Idle = 1 }, "Idle 2^32-1": func(c *api.ConnConfig) { c.Idle = maxWord },
		"Window 1": func(c *api.ConnConfig) { c.Window = 1 }, "Window 65535": func(c *api.ConnConfig) { c.Window = 65535 },
	}
	bad := map[string]turn{
		"Id 0": func(c *api.ConnConfig) { c.Id = "" }, "Id 65": func(c *api.ConnConfig) { c.Id = long(65) }, "Id no text": func(c *api.ConnConfig) { c.Id = "a\xff" }, "Id cut": func(c *api.ConnConfig) { c.Id = "\u20ac"[:2] },
		"Host 65": func(c *api.ConnConfig) { c.Host = long(65) }, "Host no text": func(c *api.ConnConfig) { c.Host = "\x80" },
	}
	for _, n := range []int{-1, 0, 1, 511, 1048577, math.MinInt, math.MaxInt} {
		bad[fmt.Sprint("MaxFrame ", n)] = func(c *api.ConnConfig) { c.MaxFrame = n }
	}
	for _, n := range []int{-1, 65536, math.MinInt, math.MaxInt} {
		bad[fmt.Sprint("ChannelMax ", n)] = func(c *api.ConnConfig) { c.ChannelMax = n }
	}
	for _, n := range []int{-1, maxWord + 1, math.MinInt, math.MaxInt} {
		bad[fmt.Sprint("Idle ", n)] = func(c *api.ConnConfig) { c.Idle = n }
	}
	for _, n := range []int{0, -1, 65536, math.MinInt, math.MaxInt} {
		bad[fmt.Sprint("Window ", n)] = func(c *api.ConnConfig) { c.Window = n }
	}
	for _, server := range []bool{false, true} {
		for _, guarded := range []bool{false, true} {
			as := func(turn turn) api.ConnConfig {
				c := config(server)
				c.Guarded, c.Mech = guarded, "open"
				turn(&c)
				return c
			}
			for what, turn := range good {
				if c := as(turn); conn.New(c) == nil || newModel(c) == nil {
					t.Errorf("%s: New(%+v) is nil", what, c)
				}
			}
			for what, turn := range bad {
				if c := as(turn); conn.New(c) != nil || newModel(c) != nil {
					t.Errorf("%s: New(%+v) is not nil", what, c)
				}
			}
		}
	}
}

// badUsers are such as guard.NewServer refuses.
func badUsers() [][]api.User {
	crowd := make([]api.User, 33)
	for i := range crowd {
		crowd[i].Name = fmt.Sprint("u", i)
	}
	return [][]api.User{crowd, {{Name: ""}}, {{Name: "ann"}, {Name: "ann", Secret: "x"}}, {{Name: long(65)}}, {{Name: "ann", Secret: "\x00"}}}
}

// badComers are such as guard.NewClient refuses.
func badComers() []api.ConnConfig {
	return []api.ConnConfig{{Mech: ""}, {Mech: "magic"}, {Mech: "plain"}, {Mech: "proof", User: api.User{Name: "a\x00b"}}, {Mech: "plain", User: api.User{Name: "a", Secret: long(65)}}}
}

// P15.1: the guard's part is looked at of a guarded end alone, and only what its kind uses.
func TestNewGuarded(t *testing.T) {
	for _, users := range badUsers() {
		for _, c := range []struct {
			server, guarded, want bool
		}{{true, true, false}, {true, false, true}, {false, true, true}, {false, false, true}} {
			x := config(c.server)
			x.Guarded, x.Users, x.Mech = c.guarded, users, "open"
			if (conn.New(x) != nil) != c.want {
				t.Errorf("New(%+v): not nil must be %v", x, c.want)
			}
		}
	}
	for _, comer := range badComers() {
		for _, c := range []struct {
			server, guarded, want bool
		}{{false, true, false}, {false, false, true}, {true, true, true}, {true, false, true}} {
			x := config(c.server)
			x.Guarded, x.Mech, x.User = c.guarded, comer.Mech, comer.User
			if (conn.New(x) != nil) != c.want {
				t.Errorf("New(%+v): not nil must be %v", x, c.want)
			}
		}
	}
	for _, seed := range []int{0, -1, math.MinInt, math.MaxInt} {
		x := config(true)
		x.Guarded, x.Seed, x.Users = true, seed, badUsers()[0][:32]
		if conn.New(x) == nil {
			t.Errorf("New(%+v) is nil", x)
		}
	}
}

// P15.1: a new end has written nothing, and nothing has happened.
func TestNewHasNothing(t *testing.T) {
	for _, server := range []bool{false, true} {
		c := made(t, config(server))
		wantOut(t, c)
		if over, f := c.Over(); over || !isZeroFault(f) || c.Up() || len(c.Channels()) != 0 {
			t.Errorf("%s", seen(c))
		}
		wantEvents(t, c.Feed(nil))
		wantEvents(t, c.Feed([]byte{}))
		wantEvents(t, c.Tick(maxTime))
		_, e := c.Begin()
		wantErrno(t, "Begin", e, api.ErrState)
		wantErrno(t, "Close", c.Close(api.Fault{}), api.ErrState)
		for _, channel := range append(numbers, 0) {
			wantNoSession(t, c, channel)
		}
		wantOut(t, c)
		wantErrno(t, "Open", c.Open(), api.OK)
	}
}

func isZeroFault(f api.Fault) bool { return told(f) == told(api.Fault{}) }
