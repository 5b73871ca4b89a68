package guard_test

import (
	"hash/crc32"
	"math/rand"
	"testing"

	"longshore/api"
	"longshore/guard"
)

// ending is what two sides came to: the client's last error, the bodies that went either way.
type ending struct {
	e             api.Errno
	toClient, toS int
}

// play hands the bodies of a server and a client to one another, Hello first, until the client says nothing more.
func play(t *testing.T, s *guard.Server, c *guard.Client) ending {
	t.Helper()
	said := s.Hello()
	end := ending{}
	for range 10 {
		end.toClient++
		var answer []byte
		answer, end.e = c.On(said)
		if len(answer) == 0 {
			return end
		}
		end.toS++
		var e api.Errno
		if said, e = s.On(answer); e != api.OK {
			t.Fatalf("the server's On(%s): %d", told(answer), e)
		}
	}
	t.Fatal("no end behind ten bodies")
	return end
}

// wantPlayed plays them, and wants that one in at both sides, or nobody at either.
func wantPlayed(t *testing.T, l []api.User, seed int, mech string, u api.User, in string) {
	t.Helper()
	s, c := server(t, l, seed), client(t, mech, u)
	end := play(t, s, c)
	wantServer(t, s, true, in)
	wantClient(t, c, true, in != "")
	if wantE := map[bool]api.Errno{true: api.OK, false: api.ErrSecret}[in != ""]; end.e != wantE {
		t.Errorf("%s %q: the client's last error is %d", mech, u, end.e)
	}
	bodies := ending{end.e, 2, 1}
	if mech == "proof" {
		bodies = ending{end.e, 3, 2}
	}
	if end != bodies {
		t.Errorf("%s %q: %v, want %v", mech, u, end, bodies)
	}
}

// strangers are clients that are no users, or have not the secret.
func strangers() []api.User {
	return []api.User{{Name: "eve"}, {Name: "eve", Secret: "x"}, {Name: "ann"}, {Name: "ann", Secret: "y"}, {Name: "ann", Secret: "xx"}, {Name: "bob", Secret: "x"}, {Name: "Ann", Secret: "x"}, {Name: "annx"}, {Name: "guest"}, {Name: "guest", Secret: "x"}, {Name: long(64), Secret: long(63)}, {Name: long(63), Secret: long(64)}, {Name: "an", Secret: "x"}, {Name: "x", Secret: "x"}, {Name: "\xff\xfe", Secret: "\x80"}, {Name: "open"}, {Name: "u1"}}
}

// P10.9: by open everybody is the guest, at both sides.
func TestBothByOpen(t *testing.T) {
	for _, l := range [][]api.User{nil, users(), crowd(32)} {
		for _, u := range append(strangers(), api.User{}, api.User{Name: "\x00"}, api.User{Name: long(100)}, users()[0]) {
			for _, seed := range seeds {
				wantPlayed(t, l, seed, "open", u, "guest")
			}
		}
	}
}

// P10.9, P10.10: by plain and proof each user comes in as itself, and nobody else does.
func TestBothBySecrets(t *testing.T) {
	for _, mech := range []string{"plain", "proof"} {
		for _, seed := range seeds {
			for _, l := range [][]api.User{users(), crowd(1), crowd(32)} {
				for _, u := range l {
					wantPlayed(t, l, seed, mech, u, u.Name)
				}
			}
			for _, u := range strangers() {
				wantPlayed(t, users(), seed, mech, u, "")
				wantPlayed(t, nil, seed, mech, u, "")
				wantPlayed(t, crowd(32), seed, mech, u, "")
			}
		}
	}
}

// P10.9: each user's name with each user's secret.
func TestNamesWithOtherSecrets(t *testing.T) {
	for _, mech := range []string{"plain", "proof"} {
		for _, a := range users() {
			for _, b := range users() {
				in := ""
				if a.Secret == b.Secret {
					in = a.Name
				}
				wantPlayed(t, users(), 7, mech, api.User{Name: a.Name, Secret: b.Secret}, in)
			}
		}
	}
}

// twin is another secret of which Proof makes the same with any challenge: it differs by what the check sum does not see.
func twin(secret string) string {
	const first = 0x55
	unseen := crc32.IEEETable[first]
	b := []byte(secret)
	b[0] ^= first
	for i := range 4 {
		b[1+i] ^= byte(unseen >> (8 * i))
	}
	return string(b)
}

// P10.9: by proof a client comes in also with another secret of which Proof makes the same; by plain it does not.
func TestSecretsOfOneProof(t *testing.T) {
	for _, secret := range []string{"abcde", "xxxxx", long(64), "secret of ann"} {
		other := twin(secret)
		if other == secret || !mayBeSecret(other) {
			t.Fatalf("%q is no other secret than %q", other, secret)
		}
		for _, seed := range seeds {
			l := []api.User{{Name: "ann", Secret: secret}, {Name: "bob", Secret: "b"}}
			wantPlayed(t, l, seed, "proof", api.User{Name: "ann", Secret: other}, "ann")
			wantPlayed(t, l, seed, "plain", api.User{Name: "ann", Secret: other}, "")
			wantPlayed(t, l, seed, "proof", api.User{Name: "bob", Secret: other}, "")
		}
	}
}

// P10.9: any users and clients by chance: the client is in just if the server has somebody in.
func TestBothByChance(t *testing.T) {
	r := rand.New(rand.NewSource(109))
	text := func(least int) string {
		b := make([]byte, least+r.Intn(3))
		for i := range b {
			b[i] = "ab\xff"[r.Intn(3)]
		}
		return string(b)
	}
	came := 0
	for range 20000 {
		var l []api.User
		names := map[string]string{}
		for range r.Intn(6) {
			u := api.User{Name: text(1), Secret: text(0)}
			if _, twice := names[u.Name]; !twice {
				names[u.Name] = u.Secret
				l = append(l, u)
			}
		}
		u := api.User{Name: text(1), Secret: text(0)}
		if len(l) > 0 && r.Intn(3) == 0 {
			u = l[r.Intn(len(l))]
		}
		mech := mechs[r.Intn(3)]
		in := ""
		if secret, is := names[u.Name]; is && secret == u.Secret {
			in = u.Name
		}
		if mech == "open" {
			in = "guest"
		}
		wantPlayed(t, l, r.Int()-r.Int(), mech, u, in)
		if in != "" && mech != "open" {
			came++
		}
		if t.Failed() {
			return
		}
	}
	if came < 2000 {
		t.Errorf("only %d came in by a secret", came)
	}
}

// P10.9: servers and clients beside one another know nothing of each other.
func TestSidesBesideOneAnother(t *testing.T) {
	s1, s2 := server(t, users(), 7), server(t, users()[:1], 8)
	c1, c2 := client(t, "proof", users()[1]), client(t, "plain", users()[0])
	wantLed(t, c1, hello, initAlone("proof"), api.OK, false, false)
	wantLed(t, c2, hello, initWith("plain", plainOf("ann", "x")), api.OK, false, false)
	wantServed(t, s1, initAlone("proof"), challengeWith(modelChallenge(7)), api.OK, false, "")
	wantServed(t, s2, initWith("plain", plainOf("ann", "x")), welcome, api.OK, true, "ann")
	wantLed(t, c2, welcome, nil, api.OK, true, true)
	wantLed(t, c1, challengeWith(modelChallenge(7)), responseWith(proofOf("bob", "", modelChallenge(7))), api.OK, false, false)
	wantServer(t, s1, false, "")
	wantServed(t, s1, responseWith(proofOf("bob", "", modelChallenge(7))), welcome, api.OK, true, "bob")
	wantLed(t, c1, welcome, nil, api.OK, true, true)
	wantServer(t, s2, true, "ann")
}

// guesses are bodies of one who knows the users' names, and no secret; other challenges' proofs among them, which were overheard.
func guesses() [][]byte {
	l := [][]byte{nil, hello, welcome, declined, challengeWith(""), challengeWith(modelChallenge(7)), initAlone("plain"), initAlone("proof"), initAlone("magic"), responseWith("")}
	for _, name := range []string{"ann", "bob", "eve", "guest", ""} {
		for _, secret := range []string{"", "y", "guest", name, "\x00"} {
			l = append(l, initWith("plain", plainOf(name, secret)), initWith("proof", plainOf(name, secret)), responseWith(plainOf(name, secret)), responseWith(proofOf(name, secret, modelChallenge(7))), initWith("plain", proofOf(name, secret, modelChallenge(7))))
		}
		l = append(l, responseWith(proofOf(name, "x", modelChallenge(8))), responseWith(proofOf(name, "z", modelChallenge(8))), responseWith(name+"\x00"+modelChallenge(7)))
	}
	return l
}

// P10.10: no row of bodies that begins with an init of plain or of proof lets in who has no secret, also where an init of open stands in it.
func TestNobodyIsLetInWithoutASecret(t *testing.T) {
	l := []api.User{{Name: "ann", Secret: "x"}, {Name: "bob", Secret: "z"}}
	late := append(guesses(), initAlone("open"), initWith("open", ""))
	for _, first := range guesses() {
		for _, second := range late {
			s := server(t, l, 7)
			s.On(first)
			if _, in := s.Done(); in != "" {
				t.Fatalf("%s lets %q in", told(first), in)
			}
			s.On(second)
			for _, third := range late {
				s.On(third)
			}
			if _, in := s.Done(); in != "" {
				t.Fatalf("%s, %s let %q in", told(first), told(second), in)
			}
		}
	}
}

// P10.10: by proof nobody comes in with the secret itself, nor by plain with its proof; the right ones behind a wrong one are too late.
func TestTheRightOneTooLate(t *testing.T) {
	nonce := modelChallenge(7)
	secret, proof := initWith("plain", plainOf("ann", "x")), responseWith(proofOf("ann", "x", nonce))
	for _, row := range [][][]byte{
		{initWith("plain", plainOf("ann", "y")), secret}, {initAlone("plain"), proof}, {initAlone("plain"), initAlone("proof"), proof}, {initAlone("proof"), secret, proof}, {initAlone("proof"), responseWith(plainOf("ann", "x")), proof}, {initAlone("proof"), responseWith(proofOf("ann", "y", nonce)), proof}, {proof, initAlone("proof"), proof}, {initAlone("proof"), initAlone("proof"), proof}, {nil, secret}, {initAlone("magic"), secret}, {initWith("plain", proofOf("ann", "x", nonce)), secret},
	} {
		s := server(t, users(), 7)
		for _, body := range row {
			s.On(body)
		}
		wantServer(t, s, true, "")
	}
}
