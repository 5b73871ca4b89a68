package guard_test

import (
	"bytes"
	"reflect"
	"slices"
	"testing"

	"longshore/api"
	"longshore/guard"
)

// roomy is b with room to spare, in which a mark stands.
func roomy(b []byte) []byte { return append(bytes.Clone(b), "spare room"...)[:len(b)] }

// whole is a list with the room behind it.
func whole[T any](l []T) []T { return l[:cap(l)] }

// scribble overwrites b and the room behind it.
func scribble(b []byte) {
	for i := range whole(b) {
		whole(b)[i] ^= 0xff
	}
}

// apart tells whether no two of these share memory, their room too.
func apart(l ...[]byte) bool {
	type lies struct{ first, behind uintptr }
	var all []lies
	for _, b := range l {
		if cap(b) > 0 {
			first := reflect.ValueOf(b).Pointer()
			all = append(all, lies{first, first + uintptr(cap(b))})
		}
	}
	for i, a := range all {
		for _, b := range all[:i] {
			if a.first < b.behind && b.first < a.behind {
				return false
			}
		}
	}
	return true
}

func TestApart(t *testing.T) {
	b := make([]byte, 4, 10)
	if !apart(b, make([]byte, 4), nil, nil, []byte{}, b[:0:0]) || !apart(b[:2:2], b[2:]) {
		t.Error("bytes that share nothing are not told apart")
	}
	if apart(b, b) || apart(b[:2], b[2:]) || apart(b, b[:10][8:]) || apart(b[:0], b) {
		t.Error("bytes that share memory are told apart")
	}
}

// rowsOfServers are bodies for a server, one behind the other, up to an end.
func rowsOfServers() [][][]byte {
	l := [][][]byte{{initAlone("proof"), responseWith(proofOf("ann", "x", modelChallenge(7))), initAlone("open")}}
	for _, c := range ends() {
		l = append(l, append(c.row, welcome, nil))
	}
	for body := range refused() {
		if len(body) < 1000 {
			l = append(l, [][]byte{[]byte(body)}, [][]byte{initAlone("proof"), []byte(body)})
		}
	}
	return l
}

func rowsOfClients() [][][]byte {
	l := [][][]byte{{hello, challengeWith(modelChallenge(7)), welcome, welcome}, {hello, challengeWith(""), declined}, {hello, welcome, hello}, {hello, declined}, {mechsOf("magic"), hello}, {welcome}, {hello, hello}}
	for body := range refused() {
		if len(body) < 1000 {
			l = append(l, [][]byte{[]byte(body)}, [][]byte{hello, []byte(body)})
		}
	}
	return l
}

// wantNew hands a row of bodies to a side, and wants each as it was, with its room, all answers in memory of their own, and the answers that came in the first place also where each body, and each answer, is scribbled over when the call is done.
func wantNew(t *testing.T, make func() func([]byte) ([]byte, api.Errno), row [][]byte) {
	t.Helper()
	on, again := make(), make()
	var all [][]byte
	for _, body := range row {
		in, copied := roomy(body), roomy(body)
		got, e := on(in)
		if !bytes.Equal(whole(in), whole(roomy(body))) {
			t.Fatalf("On(%s) changed what was handed in", told(body))
		}
		all = append(all, in, got)
		got2, e2 := again(copied)
		if e != e2 || !bytes.Equal(got, got2) {
			t.Fatalf("On(%s): %s, %d; had what came before been scribbled over, %s, %d", told(body), told(got), e, told(got2), e2)
		}
		scribble(copied)
		scribble(got2)
	}
	if !apart(all...) {
		t.Fatalf("bodies share memory: %x", all)
	}
}

// DOC.md's R2: bodies that are handed in stay, and are not kept; those that come out are new.
func TestBodiesAreNew(t *testing.T) {
	for _, row := range rowsOfServers() {
		wantNew(t, func() func([]byte) ([]byte, api.Errno) { return server(t, users(), 7).On }, row)
	}
	for _, mech := range mechs {
		for _, u := range users() {
			for _, row := range rowsOfClients() {
				wantNew(t, func() func([]byte) ([]byte, api.Errno) { return client(t, mech, u).On }, row)
			}
		}
	}
}

// DOC.md's R2: what Hello answers is new at each call.
func TestHellosAreNew(t *testing.T) {
	s, other := server(t, users(), 7), server(t, users(), 7)
	a, b, c := s.Hello(), s.Hello(), other.Hello()
	if !apart(a, b, c) {
		t.Error("Hello answers memory that it answered before")
	}
	scribble(a)
	for _, body := range [][]byte{b, c, s.Hello(), server(t, nil, 0).Hello()} {
		if !bytes.Equal(body, hello) {
			t.Errorf("Hello: %s", told(body))
		}
	}
}

// DOC.md's R2: challenges and outcomes of many servers share nothing.
func TestAnswersOfManyServers(t *testing.T) {
	var all [][]byte
	for range 20 {
		for _, body := range [][]byte{initAlone("open"), initAlone("plain"), initAlone("proof")} {
			got, _ := server(t, users(), 7).On(body)
			all = append(all, got)
		}
	}
	if !apart(all...) {
		t.Error("answers share memory")
	}
	for _, b := range all {
		scribble(b)
	}
	wantServed(t, server(t, users(), 7), initAlone("open"), welcome, api.OK, true, "guest")
	wantServed(t, server(t, users(), 7), initAlone("plain"), declined, api.OK, true, "")
	wantServed(t, server(t, users(), 7), initAlone("proof"), challengeWith(modelChallenge(7)), api.OK, false, "")
}

// DOC.md's R2: Proof leaves the nonce and its room, and answers new memory, its room too.
func TestProofsAreNew(t *testing.T) {
	for _, secret := range []string{"", "x", long(100)} {
		for _, nonce := range []string{"", "\x00", modelChallenge(7), long(100)} {
			b := roomy([]byte(nonce))
			first := guard.Proof(secret, b)
			second := guard.Proof(secret, b)
			if !bytes.Equal(whole(b), whole(roomy([]byte(nonce)))) {
				t.Errorf("Proof(%q, %q) changed the nonce", secret, nonce)
			}
			if !apart(b, first, second) {
				t.Errorf("Proof(%q, %q) answers memory that is not new", secret, nonce)
			}
			scribble(first)
			scribble(b)
			if string(second) != modelProof(secret, nonce) || string(guard.Proof(secret, []byte(nonce))) != modelProof(secret, nonce) {
				t.Errorf("Proof(%q, %q): %x, when the first one was scribbled over", secret, nonce, second)
			}
		}
	}
}

// DOC.md's R2: the list of users stays as it was, with its room, also where it is refused.
func TestUsersStay(t *testing.T) {
	mark := api.User{Name: "mark", Secret: "mark"}
	for _, l := range [][]api.User{nil, users(), crowd(31), crowd(32), crowd(33), {{}}, {{Name: "a"}, {Name: "a"}}, {{Name: "b", Secret: "\x00"}, {Name: "a"}}, {{Name: "z"}, {Name: "a"}, {Name: "m"}}} {
		roomy := append(slices.Clone(l), mark, mark)[:len(l)]
		before := slices.Clone(whole(roomy))
		s := guard.NewServer(roomy, 7)
		if s != nil {
			s.Hello()
			s.On(initWith("plain", plainOf("mark", "mark")))
			wantServer(t, s, true, "")
		}
		if !slices.Equal(whole(roomy), before) {
			t.Errorf("of %d users: the list changed", len(l))
		}
	}
}

// DOC.md's R2: the list of users is not kept: its owner may change it when the server is made, and in between.
func TestUsersAreNotKept(t *testing.T) {
	for _, mech := range []string{"plain", "proof"} {
		for _, u := range users() {
			l := users()
			s, c := server(t, l, 7), client(t, mech, u)
			for i := range l {
				l[i] = api.User{Name: "eve", Secret: "e"}
			}
			init, _ := c.On(s.Hello())
			answer, _ := s.On(init)
			clear(l)
			if mech == "proof" {
				said, _ := c.On(answer)
				answer, _ = s.On(said)
			}
			wantServer(t, s, true, u.Name)
			wantLed(t, c, answer, nil, api.OK, true, true)
		}
		l := users()
		s := server(t, l, 7)
		l[0] = api.User{Name: "eve", Secret: "e"}
		c := client(t, mech, l[0])
		play(t, s, c)
		wantServer(t, s, true, "")
		wantClient(t, c, true, false)
	}
}

// DOC.md's R3: no bytes and none at all are the same, in and out.
func TestEmptyBodies(t *testing.T) {
	for _, b := range [][]byte{nil, {}, roomy(nil), make([]byte, 0, 5)} {
		wantServed(t, server(t, users(), 7), b, nil, api.ErrShort, true, "")
		wantServed(t, server(t, []api.User{}, 7), b, nil, api.ErrShort, true, "")
		wantLed(t, client(t, "open", api.User{}), b, nil, api.ErrShort, true, false)
		if got := guard.Proof("x", b); string(got) != modelProof("x", "") {
			t.Errorf("Proof of no bytes: %x", got)
		}
	}
}

// DOC.md's R1: calls end and do not panic where bodies are long, or nest ever so deep.
func TestGreatBodies(t *testing.T) {
	deep := append(bytes.Repeat([]byte{0}, 1<<20), 0x40)
	lists := bytes.Repeat([]byte{0xd0}, 1<<20)
	noise := []byte(long(1 << 22))
	full := encoded(composite(api.KInit, symbol("plain"), octets(long(1<<20-100))))
	many := encoded(composite(api.KMechanisms, names(slices.Repeat([]string{"m"}, 1<<18)...)))
	among := encoded(composite(api.KMechanisms, names(append(slices.Repeat([]string{"m"}, 1<<18), "proof")...)))
	for body, e := range map[*[]byte]api.Errno{&deep: api.ErrDeep, &lists: api.ErrShort, &noise: api.ErrCode} {
		wantServed(t, server(t, users(), 7), *body, nil, e, true, "")
		wantLed(t, client(t, "open", api.User{}), *body, nil, e, true, false)
	}
	wantServed(t, server(t, users(), 7), full, declined, api.OK, true, "")
	wantServed(t, server(t, users(), 7), many, nil, api.ErrTurn, true, "")
	wantLed(t, client(t, "proof", users()[0]), many, nil, api.ErrMech, true, false)
	wantLed(t, client(t, "proof", users()[0]), among, initAlone("proof"), api.OK, false, false)
	wantLed(t, client(t, "open", api.User{Name: long(1 << 24)}), hello, initAlone("open"), api.OK, false, false)
	s := server(t, users(), 7)
	s.On(initAlone("proof"))
	wantServed(t, s, encoded(composite(api.KResponse, octets(long(1<<20-100)))), declined, api.OK, true, "")
}

// DOC.md's R6: what was called before, at other sides, doesn't matter.
func TestNothingIsShared(t *testing.T) {
	for range 3 {
		TestExamplesOfServers(t)
		TestExamplesOfClients(t)
		TestExamplesOfProofs(t)
	}
}
