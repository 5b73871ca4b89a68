package broker_test

import (
	"fmt"
	"math/rand"
	"testing"

	"longshore/api"
)

// course is steps that bring a stage to where it stands, and bytes that one peer has written then.
type course struct {
	room  int
	steps []step
	n     int // the peer's connection
	bytes []byte
}

// anyCourse plays steps by chance, and lets a peer do this and that then, without hearing what comes of it.
func anyCourse(t *testing.T, seed int64) course {
	t.Helper()
	w := &chance{Rand: rand.New(rand.NewSource(seed)), wild: seed%4 == 0}
	c := course{room: roomOf(w.Rand)}
	a := staged(t, c.room, ofBroker)
	c.steps = w.first()
	for n := range 120 {
		if n >= len(c.steps) {
			c.steps = append(c.steps, w.next())
		}
		c.steps[n].do(a)
		for k := range maxConns + 1 {
			w.hears(k, a.b.Out(k))
		}
	}
	p := w.one(w.peers)
	for range 40 {
		w.act(p)
	}
	c.n, c.bytes = p.n, append(p.out, p.c.Out()...)
	if w.Intn(4) == 0 {
		c.bytes = append(c.bytes, "\x00\x00\x00\x01 a fault of the stream"...)
	}
	return c
}

// played is all that goes out, on each connection, and how all stands, where the bytes come cut by cut(n), which says how many of the n that are left come next.
func (c course) played(t *testing.T, cut func(n int) int) (string, bool) {
	t.Helper()
	x := staged(t, c.room, ofBroker)
	for _, s := range c.steps {
		s.do(x)
	}
	for k := range maxConns + 1 {
		x.b.Out(k)
	}
	before := x.all()
	answer := api.OK
	for left := c.bytes; len(left) > 0; {
		n := cut(len(left))
		answer = x.b.Feed(c.n, left[:n])
		left = left[n:]
	}
	changed := x.all() != before
	s := x.all() + fmt.Sprint("\n", answer, x.b.Tick(0))
	for k := range maxConns + 1 {
		s += fmt.Sprintf("\n%d:%s", k, lines(x.b.Out(k)))
	}
	return s, changed
}

// P23.13, and DOC.md's P0.1: whole, byte by byte, at any places, with empty pieces, in two at each of some places.
func TestPieces(t *testing.T) {
	changes := 0
	for seed := range int64(50) {
		c := anyCourse(t, seed)
		r := rand.New(rand.NewSource(seed))
		whole, changed := c.played(t, func(n int) int { return n })
		if changed {
			changes++
		}
		cuts := map[string]func(n int) int{
			"byte by byte":      func(n int) int { return 1 },
			"at any places":     func(n int) int { return r.Intn(n + 1) },
			"in small pieces":   func(n int) int { return min(n, r.Intn(4)) },
			"in pieces of 8":    func(n int) int { return min(n, 8) },
			"in greater pieces": func(n int) int { return min(n, r.Intn(200)) },
		}
		for range 5 {
			at := 1 + r.Intn(len(c.bytes)+1)
			cuts[fmt.Sprint("in two at ", at)] = func(n int) int {
				if n == len(c.bytes) {
					return min(n, at)
				}
				return n
			}
		}
		for what, cut := range cuts {
			if got, _ := c.played(t, cut); got != whole {
				t.Fatalf("seed %d, %s: %s\nwhole: %s", seed, what, got, whole)
			}
		}
	}
	if changes < 30 {
		t.Errorf("only %d of 50 have changed anything", changes)
	}
}
