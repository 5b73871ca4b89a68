package guard_test

import (
	"slices"
	"testing"

	"longshore/api"
	"longshore/guard"
	"longshore/sample"
)

// P10.6: which clients there are.
func TestNewClient(t *testing.T) {
	for _, c := range []struct {
		u  api.User
		is bool
	}{
		{api.User{}, false}, {api.User{Secret: "x"}, false}, {api.User{Name: "a"}, true}, {api.User{Name: "a", Secret: "x"}, true}, {api.User{Name: "\xff", Secret: "\xff"}, true}, {api.User{Name: "\x01", Secret: "\x01"}, true}, {api.User{Name: "guest"}, true},
		{api.User{Name: long(63)}, true}, {api.User{Name: long(64)}, true}, {api.User{Name: long(65)}, false}, {api.User{Name: long(1 << 20)}, false},
		{api.User{Name: "a", Secret: long(63)}, true}, {api.User{Name: "a", Secret: long(64)}, true}, {api.User{Name: "a", Secret: long(65)}, false}, {api.User{Name: "a", Secret: long(1 << 20)}, false}, {api.User{Name: long(64), Secret: long(64)}, true},
		{api.User{Name: "\x00"}, false}, {api.User{Name: "a\x00"}, false}, {api.User{Name: "\x00a"}, false}, {api.User{Name: "a\x00b"}, false}, {api.User{Name: "a", Secret: "\x00"}, false}, {api.User{Name: "a", Secret: "\x00x"}, false}, {api.User{Name: "a", Secret: "x\x00"}, false}, {api.User{Name: "a", Secret: "x\x00y"}, false}, {api.User{Name: "a\x00", Secret: "\x00"}, false},
	} {
		for _, mech := range mechs {
			k := guard.NewClient(mech, c.u)
			is := c.is || mech == "open"
			if (k != nil) != is || is != (modelClientOf(mech, c.u) != nil) {
				t.Errorf("NewClient(%q, %q): %v", mech, c.u, k != nil)
			}
			if k != nil {
				wantClient(t, k, false, false)
			}
		}
		for _, mech := range []string{"", "magic", "Open", "OPEN", "ope", "opens", " open", "open ", "plain\x00", "PLAIN", "Proof", "proofs", long(300)} {
			if guard.NewClient(mech, c.u) != nil {
				t.Errorf("NewClient(%q, %q): a client", mech, c.u)
			}
		}
	}
}

// begun is a client that has said its init.
func begun(t *testing.T, mech string, u api.User) *guard.Client {
	t.Helper()
	c := client(t, mech, u)
	if _, e := c.On(hello); e != api.OK {
		t.Fatalf("%s: an error at the first body: %d", mech, e)
	}
	return c
}

// answered is a client by proof that has said its response.
func answered(t *testing.T, u api.User) *guard.Client {
	t.Helper()
	c := begun(t, "proof", u)
	if _, e := c.On(challengeWith("nonce")); e != api.OK {
		t.Fatalf("an error at the challenge: %d", e)
	}
	return c
}

// P10.7: the init of each mechanism, of any user.
func TestInits(t *testing.T) {
	for _, u := range users() {
		wantLed(t, client(t, "open", u), hello, initAlone("open"), api.OK, false, false)
		wantLed(t, client(t, "plain", u), hello, initWith("plain", plainOf(u.Name, u.Secret)), api.OK, false, false)
		wantLed(t, client(t, "proof", u), hello, initAlone("proof"), api.OK, false, false)
	}
	for _, u := range []api.User{{}, {Name: "\x00", Secret: "\x00"}, {Name: long(65), Secret: long(65)}} {
		wantLed(t, client(t, "open", u), hello, initAlone("open"), api.OK, false, false)
	}
}

// P10.7: the bytes of what a client says.
func TestClientsBytes(t *testing.T) {
	ann := api.User{Name: "ann", Secret: "x"}
	wantLed(t, client(t, "open", ann), hello, digits("00 53 41 c0 07 01 a3 04 6f 70 65 6e"), api.OK, false, false)
	wantLed(t, client(t, "plain", ann), hello, digits("00 53 41 c0 10 02 a3 05 70 6c 61 69 6e a0 06 00 61 6e 6e 00 78"), api.OK, false, false)
	c := client(t, "proof", ann)
	wantLed(t, c, hello, digits("00 53 41 c0 08 01 a3 05 70 72 6f 6f 66"), api.OK, false, false)
	wantLed(t, c, challengeWith(modelChallenge(7)), digits("00 53 43 c0 0f 01 a0 0c 61 6e 6e 00 ef 7f 19 5a 09 de 4b 39"), api.OK, false, false)
}

// P10.7: which mechanisms must be told: the client's, wherever it stands, however often.
func TestMechanisms(t *testing.T) {
	ann := api.User{Name: "ann", Secret: "x"}
	for _, l := range [][]string{{}, {"open"}, {"plain"}, {"proof"}, {"magic"}, {""}, {"open", "plain"}, {"proof", "open"}, {"plain", "proof"}, {"proof", "plain", "open"}, {"magic", "proof"}, {"open", "open"}, {"Open", "plai", "proofs"}, {"plain", "magic", "plain"}, {"open plain proof"}, {"openplainproof"}, {long(300), "plain"}} {
		for _, mech := range mechs {
			m := modelClientOf(mech, ann)
			want, e := m.on(mechsOf(l...))
			wantLed(t, client(t, mech, ann), mechsOf(l...), want, e, e != api.OK, false)
			if len(l) == 1 {
				one := encoded(composite(api.KMechanisms, symbol(l[0])))
				wantLed(t, client(t, mech, ann), one, want, e, e != api.OK, false)
			}
		}
	}
	for _, mech := range mechs {
		others := []string{"magic"}
		for _, m := range mechs {
			if m != mech {
				others = append(others, m)
			}
		}
		c := client(t, mech, ann)
		wantLed(t, c, mechsOf(others...), nil, api.ErrMech, true, false)
		wantLed(t, c, hello, nil, api.ErrTurn, true, false)
		wantLed(t, c, welcome, nil, api.ErrTurn, true, false)
		wantLed(t, client(t, mech, ann), mechsOf(), nil, api.ErrMech, true, false)
		wantLed(t, client(t, mech, ann), noted(`(ulong 64 [symbol "magic"])`), nil, api.ErrMech, true, false)
		wantLed(t, begun(t, mech, ann), welcome, nil, api.OK, true, true)
	}
}

// P10.7: a challenge may have any bytes, as many as there are.
func TestChallengesOfAnyBytes(t *testing.T) {
	for _, u := range users() {
		for _, nonce := range []string{"", "\x00", "a", modelChallenge(7), modelChallenge(7)[:7], modelChallenge(7) + "\x00", "\x00\x00\x00\x00\x00\x00\x00\x00", "\xff\xff\xff\xff\xff\xff\xff\xff", "ann", plainOf("ann", "x"), long(255), long(256), long(5000)} {
			c := begun(t, "proof", u)
			wantLed(t, c, challengeWith(nonce), responseWith(proofOf(u.Name, u.Secret, nonce)), api.OK, false, false)
			wantLed(t, c, welcome, nil, api.OK, true, true)
		}
	}
	greatest := long(api.MaxValue - 3 - 9 - 5) // beside descriptor, list and length
	c := begun(t, "proof", api.User{Name: "ann", Secret: "x"})
	wantLed(t, c, challengeWith(greatest), responseWith(proofOf("ann", "x", greatest)), api.OK, false, false)
}

// P10.7: the outcome, where it may stand: of code 0 the client is in, of another one it is not; data is not looked at.
func TestOutcomes(t *testing.T) {
	ann := api.User{Name: "ann", Secret: "x"}
	waiting := []func() *guard.Client{
		func() *guard.Client { return begun(t, "open", ann) },
		func() *guard.Client { return begun(t, "plain", ann) },
		func() *guard.Client { return begun(t, "proof", ann) },
		func() *guard.Client { return answered(t, ann) },
	}
	for _, make := range waiting {
		for _, data := range []api.Value{{}, octets(""), octets("\x00"), octets("\x01"), octets(long(300))} {
			for code := range 256 {
				body := encoded(composite(api.KOutcome, sample.Num(api.Ubyte, uint64(code)), data))
				c := make()
				if code == 0 {
					wantLed(t, c, body, nil, api.OK, true, true)
				} else {
					wantLed(t, c, body, nil, api.ErrSecret, true, false)
				}
				wantLed(t, c, welcome, nil, api.ErrTurn, true, code == 0)
				wantLed(t, c, declined, nil, api.ErrTurn, true, code == 0)
			}
		}
	}
}

// turn is a client's: how one comes to it, and the kinds of bodies that it waits for.
type turn struct {
	name  string
	at    func() *guard.Client
	waits []int
}

// turns are those of all clients.
func turns(t *testing.T) []turn {
	ann := api.User{Name: "ann", Secret: "x"}
	first := func(mech string) func() *guard.Client {
		return func() *guard.Client { return client(t, mech, ann) }
	}
	second := func(mech string) func() *guard.Client {
		return func() *guard.Client { return begun(t, mech, ann) }
	}
	return []turn{
		{"open", first("open"), []int{api.KMechanisms}},
		{"plain", first("plain"), []int{api.KMechanisms}},
		{"proof", first("proof"), []int{api.KMechanisms}},
		{"behind the init of open", second("open"), []int{api.KOutcome}},
		{"behind the init of plain", second("plain"), []int{api.KOutcome}},
		{"behind the init of proof", second("proof"), []int{api.KChallenge, api.KOutcome}},
		{"behind the response", func() *guard.Client { return answered(t, ann) }, []int{api.KOutcome}},
	}
}

// P10.7: a body of a kind that is not waited for, at each turn.
func TestClientsOutOfTurn(t *testing.T) {
	for _, turn := range turns(t) {
		for kind, l := range bodies() {
			for _, body := range l {
				if slices.Contains(turn.waits, kind) {
					continue
				}
				c := turn.at()
				wantLed(t, c, body, nil, api.ErrTurn, true, false)
				for _, waited := range turn.waits {
					wantLed(t, c, bodies()[waited][0], nil, api.ErrTurn, true, false)
				}
				if t.Failed() {
					t.Fatalf("at the turn: %s", turn.name)
				}
			}
		}
	}
}

// P10.7: a body that can't be read, at each turn.
func TestClientsOfRefusedBodies(t *testing.T) {
	for _, turn := range turns(t) {
		for body, want := range refused() {
			c := turn.at()
			wantLed(t, c, []byte(body), nil, want, true, false)
			wantLed(t, c, []byte(body), nil, api.ErrTurn, true, false)
			wantLed(t, c, welcome, nil, api.ErrTurn, true, false)
			if t.Failed() {
				t.Fatalf("at the turn: %s", turn.name)
			}
		}
	}
}

// P10.7: behind the end each body is ErrTurn, whatever it is, and whoever is in stays in.
func TestClientsBehindTheEnd(t *testing.T) {
	for _, turn := range turns(t) {
		for _, last := range [][]byte{welcome, declined, nil, initAlone("open")} {
			c := turn.at()
			c.On(last)
			over, in := c.Done()
			if !over || in && !slices.Contains(turn.waits, api.KOutcome) {
				t.Errorf("%s, behind %s: %v, %v", turn.name, told(last), over, in)
			}
			for _, l := range bodies() {
				for _, body := range l {
					wantLed(t, c, body, nil, api.ErrTurn, true, in)
				}
			}
			for body := range refused() {
				wantLed(t, c, []byte(body), nil, api.ErrTurn, true, in)
			}
		}
	}
}

// P10.8: Done at each turn, however often it is asked, changes nothing.
func TestClientsDone(t *testing.T) {
	c := client(t, "proof", api.User{Name: "ann", Secret: "x"})
	for range 5 {
		wantClient(t, c, false, false)
	}
	wantLed(t, c, hello, initAlone("proof"), api.OK, false, false)
	for range 5 {
		wantClient(t, c, false, false)
	}
	wantLed(t, c, challengeWith("n"), responseWith(proofOf("ann", "x", "n")), api.OK, false, false)
	for range 5 {
		wantClient(t, c, false, false)
	}
	wantLed(t, c, welcome, nil, api.OK, true, true)
	for range 5 {
		wantClient(t, c, true, true)
	}
}
