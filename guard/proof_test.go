package guard_test

import (
	"bytes"
	"math"
	"math/rand"
	"testing"

	"longshore/api"
	"longshore/guard"
)

// P10.1: proofs written out, of any secret and any nonce, bytes 0 and more than a secret may have among them.
func TestProofsWrittenOut(t *testing.T) {
	every := make([]byte, 256)
	for i := range every {
		every[i] = byte(i)
	}
	for _, c := range []struct {
		secret, nonce, want string
	}{
		{"", "", "d2 02 ef 8d e4 72 6a de"},
		{"x", "\xfb\x46\x4a\xca\x7c\xa6\x96\xf4", "ef 7f 19 5a 09 de 4b 39"},
		{"", "\xfb\x46\x4a\xca\x7c\xa6\x96\xf4", "0f 62 a0 ee b3 3e 92 0f"},
		{"", "\x00", "41 d9 12 ff 74 6b fa 9b"},
		{"\x00", "", "41 d9 12 ff 74 6b fa 9b"},
		{"a\x00b", "c", "fd 98 86 4c 88 6b 0d 85"},
		{"a", "b\x00c", "fd 98 86 4c 94 f3 1b ee"},
		{long(64), "\xff\xff\xff\xff\xff\xff\xff\xff", "44 06 ba 48 56 37 48 6d"},
		{long(65), string(bytes.Repeat([]byte("y"), 100)), "39 01 77 73 b1 1b 9f ae"},
		{"\xff\xfe", string(every), "57 14 5e 1d 76 fa 58 d6"},
	} {
		if got := guard.Proof(c.secret, []byte(c.nonce)); !bytes.Equal(got, digits(c.want)) {
			t.Errorf("Proof(%q, %q): %x, want %s", c.secret, c.nonce, got, c.want)
		}
	}
	if got := guard.Proof("", []byte{}); !bytes.Equal(got, guard.Proof("", nil)) {
		t.Errorf("Proof of an empty nonce: %x", got)
	}
}

// P10.1: proofs of all lengths, against the second program.
func TestProofs(t *testing.T) {
	r := rand.New(rand.NewSource(101))
	some := func(most int) string {
		b := make([]byte, r.Intn(most+1))
		r.Read(b)
		return string(b)
	}
	for i := range 5000 {
		most := 20
		if i%50 == 0 {
			most = 5000
		}
		secret, nonce := some(most), some(most)
		if got := guard.Proof(secret, []byte(nonce)); string(got) != modelProof(secret, nonce) {
			t.Fatalf("Proof(%q, %q): %x, want %x", secret, nonce, got, modelProof(secret, nonce))
		}
	}
	great := string(make([]byte, 1<<22))
	if got := guard.Proof(great, []byte(great)); string(got) != modelProof(great, great) {
		t.Errorf("Proof of a long secret and a long nonce: %x", got)
	}
}

// P10.4: the challenge of a seed.
func TestChallenges(t *testing.T) {
	for _, c := range []struct {
		seed int
		want string
	}{
		{math.MinInt, "36 19 5a b3 1c 96 c4 a5"}, {-2, "56 43 ef 8a ec 05 ed 6f"}, {-1, "21 44 df 1c 39 50 21 05"}, {0, "65 22 df 69 d8 26 fa e0"}, {1, "12 25 ef ff 0d 73 36 8a"}, {3, "fc 2b 8e d3 0a 6c f2 be"}, {7, "fb 46 4a ca 7c a6 96 f4"}, {1 << 32, "58 42 f6 d9 69 e8 a2 03"}, {math.MaxInt, "72 7f 5a c6 fd e0 1f 40"},
	} {
		wantServed(t, server(t, nil, c.seed), initAlone("proof"), challengeWith(string(digits(c.want))), api.OK, false, "")
	}
	r := rand.New(rand.NewSource(102))
	for range 500 {
		seed := int(r.Uint64())
		wantServed(t, server(t, users(), seed), initAlone("proof"), challengeWith(modelChallenge(seed)), api.OK, false, "")
	}
}

// P10.4: a challenge hangs on nothing but the seed: not on the users, nor on what the init says beside its mechanism.
func TestChallengesHangOnTheSeed(t *testing.T) {
	for _, seed := range seeds {
		want := challengeWith(modelChallenge(seed))
		for _, l := range [][]api.User{nil, users(), crowd(32)} {
			for _, body := range [][]byte{initAlone("proof"), initWith("proof", ""), initWith("proof", plainOf("ann", "x")), initWith("proof", proofOf("ann", "x", modelChallenge(seed))), noted(`(ulong 65 [symbol "proof" null "host"])`)} {
				s := server(t, l, seed)
				s.Hello()
				wantServed(t, s, body, want, api.OK, false, "")
			}
		}
	}
}
