package guard_test

import (
	"bytes"
	"encoding/binary"
	"encoding/hex"
	"math"
	"slices"
	"strconv"
	"strings"
	"testing"

	"longshore/api"
	"longshore/codec"
	"longshore/guard"
	"longshore/note"
	"longshore/sample"
)

func long(n int) string { return strings.Repeat("x", n) }

// digits are the bytes that digits say, two by two, with blanks between.
func digits(s string) []byte {
	b, e := hex.DecodeString(strings.ReplaceAll(s, " ", ""))
	if e != nil {
		panic(e)
	}
	return b
}

// encoded are the bytes of a value that may be.
func encoded(v api.Value) []byte {
	b, e := codec.Encode(v)
	if e != api.OK {
		panic("a value without bytes: " + strconv.Itoa(int(e)))
	}
	return b
}

// noted are the bytes of the value that a text says.
func noted(s string) []byte {
	v, at, e := note.Parse(s)
	if e != api.OK {
		panic(s + ": a fault at " + strconv.Itoa(at))
	}
	return encoded(v)
}

// told is a body as a text: the value's, or the bytes, if they are none's.
func told(body []byte) string {
	if v, _, e := codec.Whole(body); e == api.OK && len(body) < 1000 {
		s, _ := note.Print(v)
		return s
	}
	return hex.EncodeToString(body[:min(len(body), 100)])
}

// composite is a described list, by its kind's number.
func composite(kind int, l ...api.Value) api.Value {
	return sample.Described(sample.Num(api.Ulong, uint64(kind)), sample.List(l...))
}

// words are the names of the kinds of bodies.
var words = map[int]string{api.KMechanisms: "mechanisms", api.KInit: "init", api.KChallenge: "challenge", api.KResponse: "response", api.KOutcome: "outcome"}

// byName is a described list, by its kind's name.
func byName(kind int, l ...api.Value) api.Value {
	return sample.Described(symbol("longshore:"+words[kind]+":list"), sample.List(l...))
}

func symbol(s string) api.Value { return sample.Text(api.Symbol, s) }

func octets(s string) api.Value { return sample.Text(api.Binary, s) }

// names are the array of these symbols.
func names(l ...string) api.Value {
	v := sample.Array(api.Symbol)
	for _, s := range l {
		v.List = append(v.List, symbol(s))
	}
	return v
}

// Bodies: an init without a response and with one, and those that have one field.
func initAlone(mech string) []byte { return encoded(composite(api.KInit, symbol(mech))) }

func initWith(mech, said string) []byte {
	return encoded(composite(api.KInit, symbol(mech), octets(said)))
}

func mechsOf(l ...string) []byte { return encoded(composite(api.KMechanisms, names(l...))) }

func challengeWith(s string) []byte { return encoded(composite(api.KChallenge, octets(s))) }

func responseWith(s string) []byte { return encoded(composite(api.KResponse, octets(s))) }

func outcomeOf(code int) []byte {
	return encoded(composite(api.KOutcome, sample.Num(api.Ubyte, uint64(code))))
}

// What is said by plain, and by proof.
func plainOf(name, secret string) string { return "\x00" + name + "\x00" + secret }

func proofOf(name, secret, nonce string) string {
	return name + "\x00" + modelProof(secret, nonce)
}

var (
	hello    = mechsOf("open", "plain", "proof")
	welcome  = outcomeOf(0)
	declined = outcomeOf(1)
	mechs    = []string{"open", "plain", "proof"}
	seeds    = []int{math.MinInt, -4294967296, -2, -1, 0, 1, 3, 7, 255, 1 << 32, math.MaxInt}
)

// users are those of the chapter's examples, and some at the edges.
func users() []api.User {
	return []api.User{{Name: "ann", Secret: "x"}, {Name: "bob"}, {Name: "guest", Secret: "g"}, {Name: long(64), Secret: long(64)}, {Name: "\xff\xfe", Secret: "\x80\x01"}, {Name: "an", Secret: "nx"}, {Name: "x", Secret: "ann"}}
}

// loose are a body's bytes, each part in one of the forms that it has; pick(n) is a number from 0 to n - 1.
func loose(pick func(n int) int, v api.Value) []byte {
	wide := pick(2) == 1
	switch v.Kind {
	case api.Described:
		return slices.Concat([]byte{0}, loose(pick, v.List[0]), loose(pick, v.List[1]))
	case api.Ulong:
		if wide {
			return binary.BigEndian.AppendUint64([]byte{0x80}, v.Num)
		}
	case api.Binary, api.String, api.Symbol:
		wide = wide || len(v.Text) > 255
		code := map[int]byte{api.Binary: 0xa0, api.String: 0xa1, api.Symbol: 0xa3}[v.Kind]
		return slices.Concat([]byte{widened(code, wide)}, number(len(v.Text), wide), []byte(v.Text))
	case api.List:
		var data []byte
		for _, part := range v.List {
			data = append(data, loose(pick, part)...)
		}
		return span(0xc0, len(v.List), data, wide)
	case api.Array:
		return span(0xe0, len(v.List), looseSymbols(v.List, pick(2) == 1), wide)
	}
	return encoded(v)
}

// looseSymbols are an array's constructor and the data of its symbols.
func looseSymbols(l []api.Value, wide bool) []byte {
	data := []byte{widened(0xa3, wide)}
	for _, s := range l {
		data = slices.Concat(data, number(len(s.Text), wide), []byte(s.Text))
	}
	return data
}

func span(code byte, count int, data []byte, wide bool) []byte {
	wide = wide || len(data) > 254
	width := len(number(0, wide))
	return slices.Concat([]byte{widened(code, wide)}, number(width+len(data), wide), number(count, wide), data)
}

// widened is the constructor that has numbers of four bytes where this one has such of one.
func widened(code byte, wide bool) byte {
	if wide {
		return code + 0x10
	}
	return code
}

func number(n int, wide bool) []byte {
	if wide {
		return binary.BigEndian.AppendUint32(nil, uint32(n))
	}
	return []byte{byte(n)}
}

func server(t *testing.T, l []api.User, seed int) *guard.Server {
	t.Helper()
	s := guard.NewServer(l, seed)
	if s == nil {
		t.Fatalf("no server of %q", l)
	}
	return s
}

func client(t *testing.T, mech string, u api.User) *guard.Client {
	t.Helper()
	c := guard.NewClient(mech, u)
	if c == nil {
		t.Fatalf("no client by %q of %q", mech, u)
	}
	return c
}

// wantServed hands a server a body, and wants that answer and that end.
func wantServed(t *testing.T, s *guard.Server, body, want []byte, e api.Errno, over bool, in string) {
	t.Helper()
	got, gotE := s.On(body)
	if !bytes.Equal(got, want) || gotE != e {
		t.Errorf("a server's On(%s): %s, %d, want %s, %d", told(body), told(got), gotE, told(want), e)
	}
	wantServer(t, s, over, in)
}

func wantServer(t *testing.T, s *guard.Server, over bool, in string) {
	t.Helper()
	// Twice, as it changes nothing.
	for range 2 {
		if gotOver, gotIn := s.Done(); gotOver != over || gotIn != in {
			t.Errorf("a server's Done: %v, %q, want %v, %q", gotOver, gotIn, over, in)
		}
	}
}

// wantLed hands a client a body, and wants that answer and that end.
func wantLed(t *testing.T, c *guard.Client, body, want []byte, e api.Errno, over, in bool) {
	t.Helper()
	got, gotE := c.On(body)
	if !bytes.Equal(got, want) || gotE != e {
		t.Errorf("a client's On(%s): %s, %d, want %s, %d", told(body), told(got), gotE, told(want), e)
	}
	wantClient(t, c, over, in)
}

func wantClient(t *testing.T, c *guard.Client, over, in bool) {
	t.Helper()
	for range 2 {
		if gotOver, gotIn := c.Done(); gotOver != over || gotIn != in {
			t.Errorf("a client's Done: %v, %v, want %v, %v", gotOver, gotIn, over, in)
		}
	}
}
