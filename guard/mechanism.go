package guard

import "longshore/api"

// mechanism is a way to come in, as both sides go by it.
type mechanism interface {
	name() string
	// takes tells whether a client may come as that user.
	takes(u api.User) bool
	// asks tells whether the server answers the init with a challenge; what a client says stands behind that then, else in the init.
	asks() bool
	// says is what a client says to show that it is that user; the empty text, if it says nothing.
	says(u api.User, challenge []byte) string
	// who is the name of the one who comes in by what was said; the empty text, if nobody does.
	who(users []api.User, said string, challenge []byte) string
}

// mechanisms are all of them, in the order in which a server tells them.
func mechanisms() []mechanism { return []mechanism{open{}, plain{}, proof{}} }

func mechanismOf(name string) (mechanism, bool) {
	for _, m := range mechanisms() {
		if m.name() == name {
			return m, true
		}
	}
	return nil, false
}

// whoSays finds the user by what each would say: as no name has a byte 0, no two users say the same.
func whoSays(m mechanism, users []api.User, said string, challenge []byte) string {
	for _, u := range users {
		if m.says(u, challenge) == said {
			return u.Name
		}
	}
	return ""
}

// open lets in whoever comes.
type open struct{}

func (open) name() string { return "open" }

func (open) takes(api.User) bool { return true }

func (open) asks() bool { return false }

func (open) says(api.User, []byte) string { return "" }

func (open) who([]api.User, string, []byte) string { return "guest" }

// plain lets in who says a user's secret.
type plain struct{}

func (plain) name() string { return "plain" }

func (plain) takes(u api.User) bool { return isUser(u) }

func (plain) asks() bool { return false }

func (plain) says(u api.User, _ []byte) string { return "\x00" + u.Name + "\x00" + u.Secret }

func (m plain) who(users []api.User, said string, challenge []byte) string {
	return whoSays(m, users, said, challenge)
}

// proof lets in who makes of a challenge what only the secret makes of it.
type proof struct{}

func (proof) name() string { return "proof" }

func (proof) takes(u api.User) bool { return isUser(u) }

func (proof) asks() bool { return true }

func (proof) says(u api.User, challenge []byte) string {
	return u.Name + "\x00" + string(Proof(u.Secret, challenge))
}

func (m proof) who(users []api.User, said string, challenge []byte) string {
	return whoSays(m, users, said, challenge)
}
