package guard_test

import (
	"bytes"
	"testing"

	"longshore/api"
	"longshore/guard"
)

// The chapter's section 'Examples', row by row.

// pair are the users of the examples.
func pair() []api.User { return []api.User{{Name: "ann", Secret: "x"}, {Name: "bob", Secret: ""}} }

func TestExamplesOfServers(t *testing.T) {
	s := server(t, pair(), 7)
	if got, want := s.Hello(), noted(`(ulong 64 [array symbol [symbol "open" symbol "plain" symbol "proof"]])`); !bytes.Equal(got, want) {
		t.Errorf("Hello: %s", told(got))
	}
	wantServer(t, s, false, "")
	right := noted(`(ulong 65 [symbol "plain" binary "\x00ann\x00x"])`)
	wantServed(t, s, right, noted(`(ulong 68 [ubyte 0])`), api.OK, true, "ann")
	wantServed(t, s, right, nil, api.ErrTurn, true, "ann")

	wantServed(t, server(t, pair(), 7), noted(`(ulong 65 [symbol "plain" binary "\x00ann\x00"])`), noted(`(ulong 68 [ubyte 1])`), api.OK, true, "")
	wantServed(t, server(t, pair(), 7), noted(`(ulong 65 [symbol "open"])`), noted(`(ulong 68 [ubyte 0])`), api.OK, true, "guest")
	wantServed(t, server(t, pair(), 7), noted(`(ulong 65 [symbol "magic"])`), nil, api.ErrMech, true, "")
	wantServed(t, server(t, pair(), 7), noted(`(ulong 67 [binary ""])`), nil, api.ErrTurn, true, "")
	// Each 00 begins a described value, whose descriptor is missing in the end.
	wantServed(t, server(t, pair(), 7), digits("00 00 00"), nil, api.ErrShort, true, "")

	if guard.NewServer([]api.User{{Name: "ann"}, {Name: "ann"}}, 7) != nil || guard.NewServer([]api.User{{}}, 7) != nil || guard.NewServer(crowd(33), 7) != nil {
		t.Error("a server of two users ann, of a user without a name, or of 33")
	}
}

func TestExamplesOfClients(t *testing.T) {
	c := client(t, "open", api.User{})
	wantLed(t, c, server(t, pair(), 7).Hello(), noted(`(ulong 65 [symbol "open"])`), api.OK, false, false)
	wantLed(t, c, noted(`(ulong 68 [ubyte 0])`), nil, api.OK, true, true)

	wantLed(t, client(t, "open", api.User{}), noted(`(ulong 64 [symbol "plain"])`), nil, api.ErrMech, true, false)

	if guard.NewClient("magic", api.User{Name: "ann", Secret: "x"}) != nil || guard.NewClient("plain", api.User{Secret: "x"}) != nil {
		t.Error("a client by magic, or one by plain without a name")
	}
}

func TestExamplesOfProofs(t *testing.T) {
	if got := guard.Proof("", nil); !bytes.Equal(got, digits("D2 02 EF 8D E4 72 6A DE")) {
		t.Errorf("Proof of nothing: %x", got)
	}
	nonce := digits("FB 46 4A CA 7C A6 96 F4")
	s := server(t, pair(), 7)
	wantServed(t, s, initAlone("proof"), challengeWith(string(nonce)), api.OK, false, "")
	if got := guard.Proof("x", nonce); !bytes.Equal(got, digits("EF 7F 19 5A 09 DE 4B 39")) {
		t.Errorf("Proof of x: %x", got)
	}
	wantServed(t, s, responseWith("ann\x00"+string(digits("EF 7F 19 5A 09 DE 4B 39"))), welcome, api.OK, true, "ann")
}

func TestNumbers(t *testing.T) {
	for _, c := range []struct {
		name      string
		got, want int
	}{
		{"MaxName", api.MaxName, 64}, {"MaxUsers", api.MaxUsers, 32},
		{"KMechanisms", api.KMechanisms, 64}, {"KInit", api.KInit, 65}, {"KChallenge", api.KChallenge, 66}, {"KResponse", api.KResponse, 67}, {"KOutcome", api.KOutcome, 68},
		{"ErrMech", int(api.ErrMech), 100}, {"ErrSecret", int(api.ErrSecret), 101}, {"ErrTurn", int(api.ErrTurn), 102},
	} {
		if c.got != c.want {
			t.Errorf("%s: %d, want %d", c.name, c.got, c.want)
		}
	}
}
