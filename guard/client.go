package guard

import (
	"slices"

	"longshore/api"
)

// Client is the client's side.
type Client struct {
	by    mechanism
	user  api.User
	waits turn
	in    bool
}

// NewClient makes one that goes by a mechanism.
func NewClient(mech string, u api.User) *Client {
	by, is := mechanismOf(mech)
	if !is || !by.takes(u) {
		return nil
	}
	return &Client{by: by, user: u, waits: turn{api.KMechanisms}}
}

// On takes a body of the server's, and answers one (none: nothing).
func (c *Client) On(body []byte) ([]byte, api.Errno) {
	r, e := c.waits.read(body)
	// Each body is the last one, unless an answer goes out.
	c.waits = nil
	if e != api.OK {
		return nil, e
	}
	switch r.Kind {
	case api.KMechanisms:
		return c.begin(r.Fields[0].List)
	case api.KChallenge:
		return c.answer([]byte(r.Fields[0].Text)), api.OK
	}
	return nil, c.end(r.Fields[0].Num)
}

// begin is the init, if the client's mechanism is among those that the server takes.
func (c *Client) begin(mechs []api.Value) ([]byte, api.Errno) {
	name := c.by.name()
	mine := func(mech api.Value) bool { return mech.Text == name }
	if !slices.ContainsFunc(mechs, mine) {
		return nil, api.ErrMech
	}
	c.waits = turn{api.KOutcome}
	response := api.Value{}
	if c.by.asks() {
		c.waits = turn{api.KChallenge, api.KOutcome}
	} else if said := c.by.says(c.user, nil); said != "" {
		response = binary(said)
	}
	return bodyOf(api.KInit, symbol(name), response, api.Value{}), api.OK
}

func (c *Client) answer(challenge []byte) []byte {
	c.waits = turn{api.KOutcome}
	return bodyOf(api.KResponse, binary(c.by.says(c.user, challenge)))
}

func (c *Client) end(code uint64) api.Errno {
	if code != 0 {
		return api.ErrSecret
	}
	c.in = true
	return api.OK
}

// Done tells whether it is over, and whether one came in.
func (c *Client) Done() (bool, bool) { return len(c.waits) == 0, c.in }
