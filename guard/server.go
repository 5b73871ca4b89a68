package guard

import (
	"slices"

	"longshore/api"
)

// Server is the server's side of the guard.
type Server struct {
	users []api.User
	seed  int
	waits turn
	by    mechanism // the one that the init picked
	in    string    // who is in; the empty text, if nobody is
}

// NewServer makes one for these users; seed: of its challenges.
func NewServer(users []api.User, seed int) *Server {
	if len(users) > api.MaxUsers {
		return nil
	}
	for i, u := range users {
		alike := func(other api.User) bool { return other.Name == u.Name }
		if !isUser(u) || slices.ContainsFunc(users[:i], alike) {
			return nil
		}
	}
	return &Server{users: slices.Clone(users), seed: seed, waits: turn{api.KInit}}
}

// Hello is the body that it begins with.
func (s *Server) Hello() []byte {
	names := api.Value{Kind: api.Array, Elem: api.Symbol}
	for _, m := range mechanisms() {
		names.List = append(names.List, symbol(m.name()))
	}
	return bodyOf(api.KMechanisms, names)
}

// On takes a body of the client's, and answers one.
func (s *Server) On(body []byte) ([]byte, api.Errno) {
	r, e := s.waits.read(body)
	// Each body is the last one, unless more is asked for behind it.
	s.waits = nil
	if e != api.OK {
		return nil, e
	}
	if r.Kind == api.KInit {
		return s.begin(r.Fields[0].Text, r.Fields[1].Text)
	}
	return s.judge(r.Fields[0].Text), api.OK
}

// begin takes an init; a response that is not there is as wrong as one without bytes.
func (s *Server) begin(mech, said string) ([]byte, api.Errno) {
	by, is := mechanismOf(mech)
	if !is {
		return nil, api.ErrMech
	}
	s.by = by
	if by.asks() {
		s.waits = turn{api.KResponse}
		return bodyOf(api.KChallenge, binary(string(challengeOf(s.seed)))), api.OK
	}
	return s.judge(said), api.OK
}

// judge is the outcome of what a client said.
func (s *Server) judge(said string) []byte {
	s.in = s.by.who(s.users, said, challengeOf(s.seed))
	code := api.Value{Kind: api.Ubyte}
	if s.in == "" {
		code.Num = 1
	}
	return bodyOf(api.KOutcome, code, api.Value{})
}

// Done tells whether it is over, and who came in.
func (s *Server) Done() (bool, string) { return len(s.waits) == 0, s.in }
