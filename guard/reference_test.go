package guard_test

import (
	"encoding/binary"
	"hash/crc32"
	"strings"

	"longshore/api"
	"longshore/codec"
	"longshore/sample"
	"longshore/shape"
)

// The chapter said once more and in another way, for the tests to hold the program against.

// eight is the sum of some bytes, and that of it and more.
func eight(first, more string) string {
	a := binary.BigEndian.AppendUint32(nil, crc32.ChecksumIEEE([]byte(first)))
	b := crc32.ChecksumIEEE([]byte(string(a) + more))
	return string(binary.BigEndian.AppendUint32(a, b))
}

func modelProof(secret, nonce string) string { return eight(secret+"\x00"+nonce, secret+nonce) }

func modelChallenge(seed int) string {
	return eight(string(binary.BigEndian.AppendUint64(nil, uint64(int64(seed)))), "\x01")
}

// modelRead is what a body says: its kind and its fields.
func modelRead(body []byte) (int, []api.Value, api.Errno) {
	v, _, e := codec.Whole(body)
	if e != api.OK {
		return 0, nil, e
	}
	r, _, e := shape.Unpack(v)
	return r.Kind, r.Fields, e
}

func mayBeName(s string) bool { return len(s) > 0 && mayBeSecret(s) }

func mayBeSecret(s string) bool { return len(s) < 65 && !strings.Contains(s, "\x00") }

// modelServer waits for a kind of bodies; 0: it is over.
type modelServer struct {
	secrets map[string]string
	seed    int
	waits   int
	in      string
}

func modelServerOf(users []api.User, seed int) *modelServer {
	m := &modelServer{secrets: map[string]string{}, seed: seed, waits: api.KInit}
	for _, u := range users {
		if _, twice := m.secrets[u.Name]; twice || !mayBeName(u.Name) || !mayBeSecret(u.Secret) {
			return nil
		}
		m.secrets[u.Name] = u.Secret
	}
	if len(users) > 32 {
		return nil
	}
	return m
}

func (m *modelServer) on(body []byte) ([]byte, api.Errno) {
	waits := m.waits
	m.waits = 0
	if waits == 0 {
		return nil, api.ErrTurn
	}
	kind, fields, e := modelRead(body)
	switch {
	case e != api.OK:
		return nil, e
	case kind != waits:
		return nil, api.ErrTurn
	case kind == api.KResponse:
		return m.outcome(m.proved(fields[0].Text)), api.OK
	}
	switch fields[0].Text {
	case "open":
		return m.outcome("guest"), api.OK
	case "plain":
		return m.outcome(m.told(fields[1].Text)), api.OK
	case "proof":
		m.waits = api.KResponse
		return challengeWith(modelChallenge(m.seed)), api.OK
	}
	return nil, api.ErrMech
}

func (m *modelServer) outcome(in string) []byte {
	m.in = in
	if in == "" {
		return declined
	}
	return welcome
}

// told is who said a name and a secret.
func (m *modelServer) told(said string) string {
	parts := strings.Split(said, "\x00")
	if len(parts) != 3 || parts[0] != "" {
		return ""
	}
	if secret, is := m.secrets[parts[1]]; !is || secret != parts[2] {
		return ""
	}
	return parts[1]
}

// proved is who said a name and a proof.
func (m *modelServer) proved(said string) string {
	name, proof, _ := strings.Cut(said, "\x00")
	if secret, is := m.secrets[name]; !is || len(proof) != 8 || proof != modelProof(secret, modelChallenge(m.seed)) {
		return ""
	}
	return name
}

// modelClient has said so many bodies; it is over at -1.
type modelClient struct {
	mech string
	user api.User
	said int
	in   bool
}

func modelClientOf(mech string, u api.User) *modelClient {
	switch mech {
	case "plain", "proof":
		if !mayBeName(u.Name) || !mayBeSecret(u.Secret) {
			return nil
		}
	case "open":
	default:
		return nil
	}
	return &modelClient{mech: mech, user: u}
}

func (m *modelClient) on(body []byte) ([]byte, api.Errno) {
	said := m.said
	m.said = -1
	if said < 0 {
		return nil, api.ErrTurn
	}
	kind, fields, e := modelRead(body)
	switch {
	case e != api.OK:
		return nil, e
	case said == 0 && kind == api.KMechanisms:
		return m.begin(fields[0])
	case said == 1 && kind == api.KChallenge && m.mech == "proof":
		m.said = 2
		return responseWith(proofOf(m.user.Name, m.user.Secret, fields[0].Text)), api.OK
	case said > 0 && kind == api.KOutcome:
		m.in = fields[0].Num == 0
		if !m.in {
			return nil, api.ErrSecret
		}
		return nil, api.OK
	}
	return nil, api.ErrTurn
}

func (m *modelClient) begin(mechs api.Value) ([]byte, api.Errno) {
	for _, v := range mechs.List {
		if !sample.Same(v, symbol(m.mech)) {
			continue
		}
		m.said = 1
		if m.mech == "plain" {
			return initWith("plain", plainOf(m.user.Name, m.user.Secret)), api.OK
		}
		return initAlone(m.mech), api.OK
	}
	return nil, api.ErrMech
}
