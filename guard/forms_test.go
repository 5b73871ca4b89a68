package guard_test

import (
	"bytes"
	"math/rand"
	"slices"
	"testing"

	"longshore/api"
	"longshore/codec"
	"longshore/sample"
)

// forms are a body's in all ways that say the same: by number and by name, with Nulls at the end and without, in the shortest constructors, the longest, and any.
func forms(r *rand.Rand, kind, fields int, l ...api.Value) [][]byte {
	var all [][]byte
	for n := len(l); n <= fields; n++ {
		padded := append(append([]api.Value{}, l...), make([]api.Value, n-len(l))...)
		for _, v := range []api.Value{composite(kind, padded...), byName(kind, padded...)} {
			all = append(all, encoded(v), loose(func(int) int { return 0 }, v), loose(func(int) int { return 1 }, v))
			for range 5 {
				all = append(all, loose(r.Intn, v))
			}
		}
	}
	return all
}

// The forms are read as the same value, and are not all the same bytes.
func TestForms(t *testing.T) {
	r := rand.New(rand.NewSource(110))
	for _, l := range [][]api.Value{{names("open", "plain")}, {symbol("a")}, {octets("\x00ann\x00x")}, {octets(long(300))}, {sample.Num(api.Ubyte, 3), octets("")}, {names()}, {}} {
		v := composite(api.KInit, l...)
		seen := map[string]int{}
		for range 50 {
			b := loose(r.Intn, v)
			seen[string(b)]++
			if got, _, e := codec.Whole(b); e != api.OK || !sample.Same(got, v) {
				t.Errorf("%x: %s, %d", b, told(b), e)
			}
		}
		if len(seen) < 2 {
			t.Errorf("%s has %d forms", told(encoded(v)), len(seen))
		}
	}
}

// P10.4: inits and responses in other forms.
func TestServersOfOtherForms(t *testing.T) {
	r := rand.New(rand.NewSource(111))
	nonce := modelChallenge(7)
	for _, c := range []struct {
		mech string
		said api.Value
		in   string
	}{{"open", api.Value{}, "guest"}, {"open", octets("x"), "guest"}, {"plain", octets(plainOf("ann", "x")), "ann"}, {"plain", octets(plainOf("ann", "y")), ""}, {"plain", api.Value{}, ""}, {"plain", octets(plainOf(long(64), long(64))), long(64)}} {
		for _, body := range forms(r, api.KInit, 3, symbol(c.mech), c.said) {
			want := welcome
			if c.in == "" {
				want = declined
			}
			wantServed(t, server(t, users(), 7), body, want, api.OK, true, c.in)
		}
	}
	for _, init := range forms(r, api.KInit, 3, symbol("proof")) {
		for _, body := range forms(r, api.KResponse, 1, octets(proofOf("ann", "x", nonce))) {
			s := server(t, users(), 7)
			wantServed(t, s, init, challengeWith(nonce), api.OK, false, "")
			wantServed(t, s, body, welcome, api.OK, true, "ann")
		}
	}
	for _, body := range forms(r, api.KInit, 3, symbol("magic")) {
		wantServed(t, server(t, users(), 7), body, nil, api.ErrMech, true, "")
	}
	for _, body := range forms(r, api.KOutcome, 2, sample.Num(api.Ubyte, 0)) {
		wantServed(t, server(t, users(), 7), body, nil, api.ErrTurn, true, "")
	}
}

// P10.7: mechanisms, challenges and outcomes in other forms.
func TestClientsOfOtherForms(t *testing.T) {
	r := rand.New(rand.NewSource(112))
	ann := users()[0]
	for _, mech := range mechs {
		for _, told := range []api.Value{names("open", "plain", "proof"), names("magic", mech), symbol(mech), names(mech)} {
			for _, body := range forms(r, api.KMechanisms, 1, told) {
				c := client(t, mech, ann)
				want, _ := modelClientOf(mech, ann).on(hello)
				wantLed(t, c, body, want, api.OK, false, false)
			}
		}
		for _, body := range append(forms(r, api.KMechanisms, 1, names("magic")), forms(r, api.KMechanisms, 1, names())...) {
			wantLed(t, client(t, mech, ann), body, nil, api.ErrMech, true, false)
		}
		for _, body := range append(forms(r, api.KOutcome, 2, sample.Num(api.Ubyte, 0)), forms(r, api.KOutcome, 2, sample.Num(api.Ubyte, 0), octets("data"))...) {
			wantLed(t, begun(t, mech, ann), body, nil, api.OK, true, true)
		}
		for _, body := range forms(r, api.KOutcome, 2, sample.Num(api.Ubyte, 7)) {
			wantLed(t, begun(t, mech, ann), body, nil, api.ErrSecret, true, false)
		}
	}
	for _, nonce := range []string{"", modelChallenge(7), long(300)} {
		for _, body := range forms(r, api.KChallenge, 1, octets(nonce)) {
			c := begun(t, "proof", ann)
			wantLed(t, c, body, responseWith(proofOf("ann", "x", nonce)), api.OK, false, false)
		}
	}
}

// What either side says is in the shortest form, whatever the form of what it was told.
func TestAnswersAreShortest(t *testing.T) {
	r := rand.New(rand.NewSource(113))
	check := func(b []byte) {
		t.Helper()
		if !codec.Shortest(b) {
			t.Errorf("%x is not in its shortest form", b)
		}
	}
	for range 300 {
		u := users()[r.Intn(7)]
		for _, mech := range mechs {
			s, c := server(t, users(), r.Int()), client(t, mech, u)
			said := s.Hello()
			for len(said) > 0 {
				check(said)
				v, _, _ := codec.Whole(said)
				answer, _ := c.On(loose(r.Intn, v))
				if len(answer) == 0 {
					break
				}
				check(answer)
				v, _, _ = codec.Whole(answer)
				said, _ = s.On(loose(r.Intn, v))
			}
			wantClient(t, c, true, true)
		}
	}
}

// P10.4, P10.7: any rows of bodies in any forms, bytes scribbled in, against the second program.
func TestRowsByChance(t *testing.T) {
	r := rand.New(rand.NewSource(114))
	pool := allBodies()
	pick := func() []byte {
		b := bytes.Clone(pool[r.Intn(len(pool))])
		if v, _, e := codec.Whole(b); e == api.OK && v.Kind == api.Described && v.List[1].Kind == api.List && r.Intn(2) == 0 {
			b = loose(r.Intn, v)
		}
		if len(b) > 0 && r.Intn(10) == 0 {
			b[r.Intn(len(b))] ^= byte(1 << r.Intn(8))
		}
		if r.Intn(20) == 0 {
			b = b[:r.Intn(len(b)+1)]
		}
		return b
	}
	for range 20000 {
		wantRow(t, users()[r.Intn(7)], mechs[r.Intn(3)], pick(), pick(), pick(), pick())
		if t.Failed() {
			return
		}
	}
}

// P10.4, P10.7: all rows of three bodies.
func TestAllRows(t *testing.T) {
	var pool [][]byte
	for _, l := range bodies() {
		pool = append(pool, l[:min(len(l), 8)]...)
	}
	pool = append(pool, nil, digits("00 00 00"), noted(`(ulong 65 [])`))
	for _, first := range pool {
		for _, second := range pool {
			for _, third := range pool {
				wantRow(t, users()[0], mechs[len(third)%3], first, second, third)
			}
		}
		if t.Failed() {
			return
		}
	}
}

// allBodies are such as can be read, and such as can't.
func allBodies() [][]byte {
	var all [][]byte
	for kind, l := range bodies() {
		all = append(all, l...)
		if words[kind] != "" { // more often than the kinds that are nobody's
			all = append(all, l...)
			all = append(all, l...)
		}
	}
	for body := range refused() {
		if len(body) < 1000 {
			all = append(all, []byte(body))
		}
	}
	slices.SortFunc(all, bytes.Compare) // as a map has no order
	return all
}

// wantRow hands a row of bodies to a server, and to a client, and wants what the second program answers.
func wantRow(t *testing.T, u api.User, mech string, row ...[]byte) {
	t.Helper()
	s, ms := server(t, users(), 7), modelServerOf(users(), 7)
	c, mc := client(t, mech, u), modelClientOf(mech, u)
	for _, body := range row {
		want, e := ms.on(body)
		wantServed(t, s, body, want, e, ms.waits == 0, ms.in)
		want, e = mc.on(body)
		wantLed(t, c, body, want, e, mc.said < 0, mc.in)
	}
}
