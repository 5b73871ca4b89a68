package conn_test

import (
	"fmt"
	"math/rand"
	"testing"

	"longshore/api"
	"longshore/conn"
)

// course is calls that bring an end to where it stands, and bytes of its peer's that come then, made so that they suit.
type course struct {
	config api.ConnConfig
	calls  []done
	bytes  []byte
	ends   string // how the model stands then
}

// anyCourse plays calls and bytes by chance at a model.
func anyCourse(r *rand.Rand) course {
	c := course{config: anyConfig(r)}
	m := newModel(c.config)
	w := chance{r, m}
	play := func(d done) {
		c.calls = append(c.calls, d)
		d.call(m)
	}
	play(done{"Open", func(c calls) string { return fmt.Sprint(c.Open()) }})
	for range r.Intn(60) {
		if l := w.useful(); len(l) > 0 && r.Intn(5) > 0 {
			play(l[r.Intn(len(l))]())
		} else {
			play(w.act())
		}
	}
	for range 1 + r.Intn(25) {
		_, b := w.says()
		if r.Intn(100) == 0 {
			b = []byte{0, 0, byte(r.Intn(256)), 7}
		}
		m.Feed(b)
		c.bytes = append(c.bytes, b...)
	}
	c.ends = seen(m)
	return c
}

// played is what happened, what went out and how all stands, when the bytes came cut by cut(n), which says how many of the n that are left come next.
func (x course) played(t *testing.T, cut func(n int) int) string {
	t.Helper()
	c := made(t, x.config)
	for _, d := range x.calls {
		d.call(c)
	}
	c.Out()
	var l []api.Event
	for b := x.bytes; len(b) > 0; {
		n := cut(len(b))
		l = append(l, c.Feed(b[:n])...)
		b = b[n:]
	}
	return told(l) + lines(c.Out()) + seen(c) + later(c)
}

// later is what comes of some calls behind.
func later(c *conn.Conn) string {
	s := told(c.Tick(5)) + fmt.Sprint(c.Begin()) + told(c.Feed(alive))
	for _, channel := range c.Channels() {
		for _, handle := range c.Handles(channel) {
			id, e := c.Send(channel, handle, "later", filled(900), true, api.State{})
			s += fmt.Sprint(id, e, c.Credit(channel, handle, 3, false), c.Settle(channel, handle, "t1", accepted, false))
		}
	}
	return s + lines(c.Out()) + seen(c)
}

// P15.19: whole, byte by byte, at any places, with empty pieces, in two at each place.
func TestPieces(t *testing.T) {
	overs := 0
	for seed := range int64(150) {
		r := rand.New(rand.NewSource(seed))
		x := anyCourse(r)
		whole := x.played(t, func(n int) int { return n })
		for what, cut := range map[string]func(n int) int{
			"byte by byte":      func(n int) int { return 1 },
			"at any places":     func(n int) int { return r.Intn(n + 1) },
			"in small pieces":   func(n int) int { return min(n, r.Intn(4)) },
			"in greater pieces": func(n int) int { return min(n, r.Intn(200)) },
		} {
			if got := x.played(t, cut); got != whole {
				t.Fatalf("seed %d, %s: %s\nwhole: %s", seed, what, got, whole)
			}
		}
		for range 10 {
			at := r.Intn(len(x.bytes) + 1)
			cut := func(n int) int {
				if n == len(x.bytes) && at > 0 {
					return at
				}
				return n
			}
			if got := x.played(t, cut); got != whole {
				t.Fatalf("seed %d, in two at %d: %s\nwhole: %s", seed, at, got, whole)
			}
		}
		c := made(t, x.config)
		for _, d := range x.calls {
			d.call(c)
		}
		c.Feed(x.bytes)
		if got := seen(c); got != x.ends {
			t.Fatalf("seed %d: %s, want %s", seed, got, x.ends)
		}
		if over, _ := c.Over(); over {
			overs++
		}
	}
	if overs < 20 || overs > 130 {
		t.Errorf("%d of 150 were over", overs)
	}
}
