package conn

import (
	"longshore/api"
	"longshore/guard"
)

// gate is the guard of either kind of end; an end that is not guarded has neither.
type gate struct {
	server *guard.Server
	client *guard.Client
}

// gateOf is the guard of an end, and whether such an end may be.
func gateOf(c api.ConnConfig) (gate, bool) {
	switch {
	case !c.Guarded:
		return gate{}, true
	case c.Server:
		g := gate{server: guard.NewServer(c.Users, c.Seed)}
		return g, g.server != nil
	}
	g := gate{client: guard.NewClient(c.Mech, c.User)}
	return g, g.client != nil
}

func (g gate) on(body []byte) ([]byte, api.Errno) {
	if g.server != nil {
		return g.server.On(body)
	}
	return g.client.On(body)
}

// done tells whether the guard is done, and whether one came in; at a server: who.
func (g gate) done() (bool, bool, string) {
	if g.server != nil {
		done, who := g.server.Done()
		return done, who != "", who
	}
	done, in := g.client.Done()
	return done, in, ""
}
