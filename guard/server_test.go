package guard_test

import (
	"bytes"
	"slices"
	"strconv"
	"testing"

	"longshore/api"
	"longshore/codec"
	"longshore/guard"
	"longshore/sample"
	"longshore/shape"
)

// crowd are so many users.
func crowd(n int) []api.User {
	var l []api.User
	for i := range n {
		l = append(l, api.User{Name: "u" + strconv.Itoa(i), Secret: strconv.Itoa(i)})
	}
	return l
}

// P10.2: which users a server may have.
func TestNewServer(t *testing.T) {
	one := func(name, secret string) []api.User { return []api.User{{Name: name, Secret: secret}} }
	for _, c := range []struct {
		users []api.User
		is    bool
	}{
		{nil, true}, {[]api.User{}, true}, {users(), true}, {crowd(31), true}, {crowd(32), true}, {crowd(33), false}, {crowd(1000), false},
		{one("", ""), false}, {one("", "x"), false}, {one("a", ""), true}, {one("a", "x"), true}, {one("\xff", "\xff"), true}, {one("é", "é"), true},
		{one(long(63), ""), true}, {one(long(64), ""), true}, {one(long(65), ""), false}, {one(long(1<<20), ""), false},
		{one("a", long(63)), true}, {one("a", long(64)), true}, {one("a", long(65)), false}, {one("a", long(1<<20)), false}, {one(long(64), long(64)), true},
		{one("\x00", ""), false}, {one("\x00a", ""), false}, {one("a\x00", ""), false}, {one("a\x00b", ""), false}, {one(long(63)+"\x00", ""), false},
		{one("a", "\x00"), false}, {one("a", "\x00x"), false}, {one("a", "x\x00"), false}, {one("a", "x\x00y"), false}, {one("a", long(63)+"\x00"), false},
		{one("\x01", "\x01"), true}, {one("guest", ""), true}, {one(" ", " "), true},
		{[]api.User{{Name: "a"}, {Name: "a"}}, false}, {[]api.User{{Name: "a", Secret: "x"}, {Name: "a", Secret: "y"}}, false}, {[]api.User{{Name: "a"}, {Name: "b"}, {Name: "a"}}, false},
		{[]api.User{{Name: "a", Secret: "x"}, {Name: "b", Secret: "x"}}, true}, {[]api.User{{Name: "a"}, {Name: "A"}}, true}, {[]api.User{{Name: "a", Secret: "b"}, {Name: "b", Secret: "a"}}, true}, {[]api.User{{Name: "a"}, {Name: "a "}}, true},
		{append(crowd(31), api.User{Name: "u30"}), false}, {append(crowd(31), api.User{Name: "u0"}), false}, {append(crowd(31), api.User{}), false}, {append(crowd(31), api.User{Name: "z", Secret: "\x00"}), false}, {append(crowd(31), api.User{Name: "z"}), true}, {append(crowd(32), api.User{Name: "z"}), false},
		{append([]api.User{{}}, crowd(3)...), false}, {append(crowd(3), one(long(65), "")...), false},
	} {
		for _, seed := range seeds {
			s := guard.NewServer(c.users, seed)
			if (s != nil) != c.is || c.is != (modelServerOf(c.users, seed) != nil) {
				t.Errorf("NewServer of %d users with the seed %d: %v", len(c.users), seed, s != nil)
			}
			if s != nil {
				wantServer(t, s, false, "")
			}
		}
	}
}

// P10.3: Hello's bytes, at each turn and behind each end.
func TestHello(t *testing.T) {
	want := digits("00 53 40 c0 16 01 e0 13 03 a3 04 6f 70 65 6e 05 70 6c 61 69 6e 05 70 72 6f 6f 66")
	if !bytes.Equal(hello, want) {
		t.Fatalf("the bytes that are awaited differ from one another: %x", hello)
	}
	for _, row := range [][][]byte{{}, {initAlone("open")}, {initWith("plain", plainOf("ann", "x"))}, {initAlone("plain")}, {initAlone("proof")}, {initAlone("proof"), responseWith("")}, {initAlone("proof"), responseWith(proofOf("ann", "x", modelChallenge(0)))}, {initAlone("magic")}, {nil}, {nil, nil}} {
		for _, l := range [][]api.User{nil, users()} {
			s := server(t, l, 0)
			for _, body := range row {
				s.On(body)
			}
			over, in := s.Done()
			for range 3 {
				if got := s.Hello(); !bytes.Equal(got, want) {
					t.Errorf("Hello: %s", told(got))
				}
			}
			wantServer(t, s, over, in)
		}
	}
}

// P10.3: Hello changes nothing: what comes behind it is as without it, however often it was called.
func TestHelloChangesNothing(t *testing.T) {
	s := server(t, users(), 7)
	s.Hello()
	s.Hello()
	wantServed(t, s, initAlone("proof"), challengeWith(modelChallenge(7)), api.OK, false, "")
	s.Hello()
	wantServed(t, s, responseWith(proofOf("bob", "", modelChallenge(7))), welcome, api.OK, true, "bob")
	s.Hello()
	wantServed(t, s, initAlone("open"), nil, api.ErrTurn, true, "bob")
}

// responses are such as an init may have, beside none.
func responses() []string {
	l := []string{"", "\x00", "\x00\x00", "ann", "x", long(300)}
	for _, u := range users() {
		l = append(l, plainOf(u.Name, u.Secret))
	}
	return l
}

// P10.4: by open whoever comes is the guest, whatever the response is, and whoever is a user.
func TestOpen(t *testing.T) {
	for _, l := range [][]api.User{nil, users(), crowd(32)} {
		wantServed(t, server(t, l, 7), initAlone("open"), welcome, api.OK, true, "guest")
		for _, said := range responses() {
			wantServed(t, server(t, l, 7), initWith("open", said), welcome, api.OK, true, "guest")
		}
	}
}

// P10.4: by plain each user comes in by its own name and secret.
func TestPlain(t *testing.T) {
	for _, l := range [][]api.User{users(), crowd(1), crowd(32)} {
		for _, u := range l {
			for _, seed := range seeds {
				wantServed(t, server(t, l, seed), initWith("plain", plainOf(u.Name, u.Secret)), welcome, api.OK, true, u.Name)
			}
		}
	}
}

// P10.4: a plain response that has something more or less than it must have lets nobody in.
func TestPlainThatIsWrong(t *testing.T) {
	refused := []string{
		"", "\x00", "\x00\x00", "\x00\x00\x00", "ann", "ann\x00x", "\x00ann", "\x00annx", "\x00ann\x00", "\x00ann\x00y", "\x00ann\x00X", "\x00ann\x00xx", "\x00ann\x00x\x00", "\x00ann\x00x\x00x", "\x00ann\x00\x00x", "\x00\x00ann\x00x", "\x00an\x00x", "\x00anna\x00x", "\x00Ann\x00x", "\x00 ann\x00x", "\x00ann\x00x ", " \x00ann\x00x", "a\x00ann\x00x", "\x01ann\x00x", "\x00ann\x01x", "\x00\x00x", "\x00x\x00x", "\x00ann\x00ann", "\x00x\x00an",
		"\x00bob", "bob\x00", "\x00bob\x00\x00", "\x00bob\x00x", "\x00bo\x00", "\x00bobb\x00", "\x00b\x00ob",
		"\x00guest\x00", "\x00guest", "guest", "\x00open\x00",
		"\x00eve\x00x", "\x00eve\x00", "\x00\x00", "\x00ann\x00x\x00bob\x00",
		"\x00" + long(64) + "\x00" + long(63), "\x00" + long(64) + "\x00" + long(65), "\x00" + long(63) + "\x00" + long(64), "\x00" + long(65) + "\x00" + long(64), "\x00" + long(64) + "\x00", "\x00" + long(64) + long(64), "\x00" + long(1<<16) + "\x00x",
		"\x00\xff\xfe\x00\x80", "\x00\xff\x00\x80\x01", "\x00\xfe\xff\x00\x80\x01", "\x00\xff\xfe\x00\x01\x80",
		proofOf("ann", "x", modelChallenge(7)), "\x00" + proofOf("ann", "x", modelChallenge(7)), "\x00ann\x00" + modelProof("x", modelChallenge(7)),
	}
	for _, said := range refused {
		wantServed(t, server(t, users(), 7), initWith("plain", said), declined, api.OK, true, "")
	}
	for _, said := range responses() {
		wantServed(t, server(t, nil, 7), initWith("plain", said), declined, api.OK, true, "")
	}
	for _, l := range [][]api.User{nil, users(), crowd(32)} {
		wantServed(t, server(t, l, 7), initAlone("plain"), declined, api.OK, true, "")
	}
}

// P10.4: each beginning of a right plain response, each one with a byte more, less or changed somewhere.
func TestPlainAtEachByte(t *testing.T) {
	for _, u := range users() {
		right := plainOf(u.Name, u.Secret)
		for at := range len(right) + 1 {
			changed := []string{right[:at] + "\x00" + right[at:], right[:at] + "a" + right[at:]}
			if at < len(right) {
				changed = append(changed, right[:at], right[:at]+right[at+1:], right[:at]+string([]byte{right[at] ^ 1})+right[at+1:])
			}
			for _, said := range changed {
				m := modelServerOf(users(), 7)
				want, e := m.on(initWith("plain", said))
				wantServed(t, server(t, users(), 7), initWith("plain", said), want, e, true, m.in)
				if said != right && m.in == u.Name {
					t.Errorf("%q lets %q in", said, u.Name)
				}
			}
		}
	}
}

// P10.4: by proof each user comes in behind the challenge, whatever the init's response is.
func TestProofOfEachUser(t *testing.T) {
	for _, l := range [][]api.User{users(), crowd(32)} {
		for _, seed := range seeds {
			nonce := modelChallenge(seed)
			for _, u := range l {
				s := server(t, l, seed)
				wantServed(t, s, initWith("proof", plainOf(l[0].Name, l[0].Secret)), challengeWith(nonce), api.OK, false, "")
				wantServed(t, s, responseWith(proofOf(u.Name, u.Secret, nonce)), welcome, api.OK, true, u.Name)
			}
		}
	}
}

// P10.4: a proof response that is another user's, of a wrong secret or challenge, of fewer or more bytes lets nobody in.
func TestProofThatIsWrong(t *testing.T) {
	nonce := modelChallenge(7)
	right := proofOf("ann", "x", nonce)
	refused := []string{
		"", "\x00", "ann", "ann\x00", "\x00ann\x00x", plainOf("ann", "x"), "ann\x00x", "ann\x00" + nonce, "ann" + modelProof("x", nonce), modelProof("x", nonce), "\x00" + modelProof("x", nonce),
		right[:len(right)-1], right + "\x00", right + "x", "\x00" + right, "a" + right, right[1:], "ann\x00\x00" + modelProof("x", nonce), right + right, right + "\x00" + right,
		proofOf("ann", "", nonce), proofOf("ann", "X", nonce), proofOf("ann", "xx", nonce), proofOf("ann", "x\x00", nonce), proofOf("ann", "ann", nonce), proofOf("bob", "x", nonce), proofOf("eve", "x", nonce), proofOf("Ann", "x", nonce), proofOf("", "x", nonce), proofOf("", "", nonce), proofOf("guest", "", nonce),
		proofOf("ann", "x", modelChallenge(8)), proofOf("ann", "x", ""), proofOf("ann", "x", nonce+"\x00"), proofOf("ann", "x", nonce[:7]),
		proofOf(long(64), long(63), nonce), proofOf(long(65), long(64), nonce), proofOf(long(63), long(64), nonce), proofOf(long(1<<16), "x", nonce),
		"ann\x00" + modelProof("x", nonce)[4:] + modelProof("x", nonce)[:4], "bob\x00" + modelProof("x", nonce), "ann\x00" + modelProof("", nonce),
	}
	for _, said := range refused {
		s := server(t, users(), 7)
		wantServed(t, s, initAlone("proof"), challengeWith(nonce), api.OK, false, "")
		wantServed(t, s, responseWith(said), declined, api.OK, true, "")
	}
	s := server(t, nil, 7)
	wantServed(t, s, initAlone("proof"), challengeWith(nonce), api.OK, false, "")
	wantServed(t, s, responseWith(right), declined, api.OK, true, "")
}

// P10.4: each beginning of a right proof response, each one with a byte more, less or changed somewhere.
func TestProofAtEachByte(t *testing.T) {
	nonce := modelChallenge(7)
	for _, u := range users() {
		right := proofOf(u.Name, u.Secret, nonce)
		for at := range len(right) + 1 {
			changed := []string{right[:at] + "\x00" + right[at:], right[:at] + "a" + right[at:]}
			if at < len(right) {
				changed = append(changed, right[:at], right[:at]+right[at+1:], right[:at]+string([]byte{right[at] ^ 0x80})+right[at+1:])
			}
			for _, said := range changed {
				s := server(t, users(), 7)
				s.On(initAlone("proof"))
				if said != right {
					wantServed(t, s, responseWith(said), declined, api.OK, true, "")
				}
			}
		}
	}
}

// P10.4: proofs in which bytes 0 stand are read whole.
func TestProofsWithBytes0(t *testing.T) {
	seen := map[int]int{}
	for seed := range 2000 {
		nonce := modelChallenge(seed)
		proof := modelProof("x", nonce)
		at := bytes.IndexByte([]byte(proof), 0)
		if at < 0 || seen[at] == 3 {
			continue
		}
		seen[at]++
		s := server(t, users(), seed)
		wantServed(t, s, initAlone("proof"), challengeWith(nonce), api.OK, false, "")
		wantServed(t, s, responseWith("ann\x00"+proof), welcome, api.OK, true, "ann")
		s = server(t, users(), seed)
		s.On(initAlone("proof"))
		wantServed(t, s, responseWith("ann\x00"+proof[:at]), declined, api.OK, true, "")
	}
	if len(seen) != 8 {
		t.Errorf("bytes 0 were seen at %v", seen)
	}
}

// P10.4: a mechanism that is none of the three.
func TestNoMechanism(t *testing.T) {
	for _, mech := range []string{"", "magic", "Open", "OPEN", "ope", "opens", " open", "open ", "plain\x00", "proo", "PLAIN", "external", long(300)} {
		for _, body := range [][]byte{initAlone(mech), initWith(mech, plainOf("ann", "x"))} {
			s := server(t, users(), 7)
			wantServed(t, s, body, nil, api.ErrMech, true, "")
			wantServed(t, s, initAlone("open"), nil, api.ErrTurn, true, "")
		}
	}
}

// P10.4: the host is not looked at.
func TestHosts(t *testing.T) {
	for _, host := range []api.Value{{}, sample.Text(api.String, ""), sample.Text(api.String, "host"), sample.Text(api.String, "\x00"), sample.Text(api.String, long(5000))} {
		init := func(mech string, response api.Value) []byte {
			return encoded(composite(api.KInit, symbol(mech), response, host))
		}
		wantServed(t, server(t, users(), 7), init("open", api.Value{}), welcome, api.OK, true, "guest")
		wantServed(t, server(t, users(), 7), init("plain", octets(plainOf("ann", "x"))), welcome, api.OK, true, "ann")
		wantServed(t, server(t, users(), 7), init("plain", octets(plainOf("ann", "y"))), declined, api.OK, true, "")
		wantServed(t, server(t, users(), 7), init("proof", api.Value{}), challengeWith(modelChallenge(7)), api.OK, false, "")
		wantServed(t, server(t, users(), 7), init("magic", api.Value{}), nil, api.ErrMech, true, "")
	}
}

// refused are bodies that can't be read, and the errors.
func refused() map[string]api.Errno {
	m := map[string]api.Errno{
		"": api.ErrShort, "\x00": api.ErrShort, "\x00\x00\x00": api.ErrShort, "\x5f": api.ErrCode, "\x40\x40": api.ErrPlain, "\x56\x02": api.ErrForm, "\xc0\x00\x00": api.ErrSpan, "\xa1\x02\xc3\x28": api.ErrUtf, "\xc1\x02\x01\x40": api.ErrKey,
		"\x00\x53\x41\xc0\x05\x01\xa3\x01\x80\x40": api.ErrUtf, // a mech that is no symbol
		string(append(initAlone("open"), 0x40)):    api.ErrPlain,
		string(append(initAlone("magic"), 0)):      api.ErrPlain,
		string(append(responseWith(""), 0x40)):     api.ErrPlain,
		string(append(slices.Clone(hello), 0x40)):  api.ErrPlain,
		string(append(outcomeOf(0), 0x40)):         api.ErrPlain,
		string(initAlone("open")[:11]):             api.ErrShort,
		string(outcomeOf(0)[:6]):                   api.ErrShort,
		string(slices.Repeat([]byte{0}, 40)):       api.ErrDeep,
		"\xb0\x00\x10\x00\x00" + long(1<<20):       api.ErrLong, // one binary of more bytes than a value may have
	}
	for s, e := range map[string]api.Errno{
		"null": api.ErrComposite, "[]": api.ErrComposite, `"open"`: api.ErrComposite, `(ulong 65 {})`: api.ErrComposite, `(ulong 65 symbol "open")`: api.ErrComposite, `(uint 65 [symbol "open"])`: api.ErrComposite, `(ulong 0 [])`: api.ErrComposite, `(symbol "longshore:init" [symbol "open"])`: api.ErrComposite, `("longshore:init:list" [symbol "open"])`: api.ErrComposite, `(ulong 117 binary "")`: api.ErrComposite, `(ulong 119 [])`: api.ErrComposite, `(ulong 63 [])`: api.ErrComposite, `(ulong 69 [])`: api.ErrComposite,
		`(ulong 65 [symbol "open" null null null])`: api.ErrFields, `(ulong 67 [binary "" null])`: api.ErrFields, `(ulong 64 [symbol "open" null])`: api.ErrFields, `(ulong 66 [binary "" null])`: api.ErrFields, `(ulong 68 [ubyte 0 null null])`: api.ErrFields, `(ulong 36 [null])`: api.ErrFields,
		`(ulong 65 [])`: api.ErrMust, `(ulong 65 [null binary ""])`: api.ErrMust, `(ulong 67 [])`: api.ErrMust, `(ulong 67 [null])`: api.ErrMust, `(ulong 64 [])`: api.ErrMust, `(ulong 66 [null])`: api.ErrMust, `(ulong 68 [])`: api.ErrMust, `(ulong 68 [null binary ""])`: api.ErrMust, `(ulong 16 [])`: api.ErrMust,
		`(ulong 65 ["open"])`: api.ErrField, `(ulong 65 [binary "open"])`: api.ErrField, `(ulong 65 [symbol "open" "x"])`: api.ErrField, `(ulong 65 [symbol "open" symbol "x"])`: api.ErrField, `(ulong 65 [symbol "open" null symbol "x"])`: api.ErrField, `(ulong 65 [symbol "magic" null binary "x"])`: api.ErrField, `(ulong 67 ["x"])`: api.ErrField, `(ulong 64 ["open"])`: api.ErrField, `(ulong 64 [[symbol "open"]])`: api.ErrField, `(ulong 64 [array string ["open"]])`: api.ErrField, `(ulong 66 [symbol "x"])`: api.ErrField, `(ulong 68 [uint 0])`: api.ErrField, `(ulong 68 [byte 0])`: api.ErrField, `(ulong 68 [ubyte 0 "x"])`: api.ErrField, `(ulong 68 [true])`: api.ErrField,
	} {
		m[string(noted(s))] = e
	}
	return m
}

// The errors of these bodies are those that codec and shape answer.
func TestRefusedBodies(t *testing.T) {
	for body, want := range refused() {
		v, _, e := codec.Whole([]byte(body))
		if e == api.OK {
			_, _, e = shape.Unpack(v)
		}
		if e != want {
			t.Errorf("%s: %d, want %d", told([]byte(body)), e, want)
		}
	}
}

// P10.4: a body that can't be read, at either turn: the error, and nobody is in; and behind the end ErrTurn.
func TestServersOfRefusedBodies(t *testing.T) {
	for body, want := range refused() {
		s := server(t, users(), 7)
		wantServed(t, s, []byte(body), nil, want, true, "")
		wantServed(t, s, initAlone("open"), nil, api.ErrTurn, true, "")
		wantServed(t, s, []byte(body), nil, api.ErrTurn, true, "")

		s = server(t, users(), 7)
		wantServed(t, s, initAlone("proof"), challengeWith(modelChallenge(7)), api.OK, false, "")
		wantServed(t, s, []byte(body), nil, want, true, "")
		wantServed(t, s, responseWith(proofOf("ann", "x", modelChallenge(7))), nil, api.ErrTurn, true, "")
	}
}

// bodies are such as can be read, by their kinds.
func bodies() map[int][][]byte {
	nonce := modelChallenge(7)
	return map[int][][]byte{
		api.KMechanisms:  {hello, mechsOf(), mechsOf("open"), mechsOf("plain"), mechsOf("proof"), mechsOf("magic"), noted(`(ulong 64 [symbol "open"])`), noted(`(symbol "longshore:mechanisms:list" [symbol "plain"])`)},
		api.KInit:        {initAlone("open"), initAlone("plain"), initAlone("proof"), initAlone("magic"), initWith("plain", plainOf("ann", "x")), initWith("plain", plainOf("ann", "")), initWith("proof", proofOf("ann", "x", nonce)), noted(`(symbol "longshore:init:list" [symbol "open" null "host"])`)},
		api.KChallenge:   {challengeWith(""), challengeWith(nonce), challengeWith("\x00")},
		api.KResponse:    {responseWith(""), responseWith(proofOf("ann", "x", nonce)), responseWith(proofOf("ann", "y", nonce)), responseWith(plainOf("ann", "x"))},
		api.KOutcome:     {welcome, declined, outcomeOf(2), outcomeOf(255), noted(`(ulong 68 [ubyte 0 binary "data"])`)},
		api.KAccepted:    {noted(`(ulong 36 [])`)},
		api.KOpen:        {noted(`(ulong 16 ["id"])`)},
		api.KTransfer:    {noted(`(ulong 20 [uint 0])`)},
		api.KFault:       {noted(`(ulong 29 [symbol "x"])`)},
		api.KCoordinator: {noted(`(ulong 48 [symbol "open"])`)},
		api.KDeclared:    {noted(`(ulong 51 [binary "\x00ann\x00x"])`)},
		api.KHeader:      {noted(`(ulong 112 [])`)},
	}
}

// P10.4: a body of a kind that is not waited for, at either turn.
func TestServersOutOfTurn(t *testing.T) {
	right := responseWith(proofOf("ann", "x", modelChallenge(7)))
	for kind, l := range bodies() {
		for _, body := range l {
			if kind != api.KInit {
				s := server(t, users(), 7)
				wantServed(t, s, body, nil, api.ErrTurn, true, "")
				wantServed(t, s, initAlone("open"), nil, api.ErrTurn, true, "")
			}
			if kind != api.KResponse {
				s := server(t, users(), 7)
				s.On(initAlone("proof"))
				wantServed(t, s, body, nil, api.ErrTurn, true, "")
				wantServed(t, s, right, nil, api.ErrTurn, true, "")
			}
		}
	}
}

// end is a row of bodies behind which a server is over, and who is in then.
type end struct {
	row [][]byte
	in  string
}

func ends() []end {
	nonce := modelChallenge(7)
	return []end{
		{[][]byte{initAlone("open")}, "guest"}, {[][]byte{initWith("plain", plainOf("ann", "x"))}, "ann"}, {[][]byte{initWith("plain", plainOf("bob", ""))}, "bob"}, {[][]byte{initAlone("proof"), responseWith(proofOf("bob", "", nonce))}, "bob"},
		{[][]byte{initAlone("plain")}, ""}, {[][]byte{initAlone("proof"), responseWith("")}, ""}, {[][]byte{initAlone("magic")}, ""}, {[][]byte{nil}, ""}, {[][]byte{responseWith("")}, ""}, {[][]byte{initAlone("proof"), initAlone("proof")}, ""}, {[][]byte{initAlone("proof"), nil}, ""},
	}
}

// P10.4: behind the end each body is ErrTurn, whatever it is, and who was in stays in.
func TestServersBehindTheEnd(t *testing.T) {
	for _, c := range ends() {
		s := server(t, users(), 7)
		for _, body := range c.row {
			s.On(body)
		}
		wantServer(t, s, true, c.in)
		for _, l := range bodies() {
			for _, body := range l {
				wantServed(t, s, body, nil, api.ErrTurn, true, c.in)
			}
		}
		for body := range refused() {
			wantServed(t, s, []byte(body), nil, api.ErrTurn, true, c.in)
		}
	}
}

// P10.5: Done at each turn, however often it is asked, changes nothing.
func TestServersDone(t *testing.T) {
	s := server(t, users(), 7)
	for range 5 {
		wantServer(t, s, false, "")
	}
	wantServed(t, s, initAlone("proof"), challengeWith(modelChallenge(7)), api.OK, false, "")
	for range 5 {
		wantServer(t, s, false, "")
	}
	wantServed(t, s, responseWith(proofOf("ann", "x", modelChallenge(7))), welcome, api.OK, true, "ann")
	for range 5 {
		wantServer(t, s, true, "ann")
	}
}

// P10.4: an outcome has no data: its bytes.
func TestOutcomesBytes(t *testing.T) {
	for _, c := range []struct {
		body []byte
		want string
	}{{initAlone("open"), "00 53 44 c0 03 01 50 00"}, {initAlone("plain"), "00 53 44 c0 03 01 50 01"}, {initAlone("proof"), "00 53 42 c0 0b 01 a0 08 fb 46 4a ca 7c a6 96 f4"}} {
		if got, e := server(t, users(), 7).On(c.body); !bytes.Equal(got, digits(c.want)) || e != api.OK {
			t.Errorf("On(%s): %x, %d", told(c.body), got, e)
		}
	}
}
