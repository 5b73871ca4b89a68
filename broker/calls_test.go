package broker_test

import (
	"fmt"
	"hash/crc32"
	"math/rand"
	"slices"
	"strings"
	"testing"

	"longshore/api"
	"longshore/broker"
	"longshore/disk"
	"longshore/store"
)

// staged is a stage on a new disk.
func staged(t *testing.T, room int, make func(s *store.Store) calls) stage {
	t.Helper()
	d := disk.New(room)
	s, e := store.Open(d)
	wantErrno(t, "Open", e, api.OK)
	return stage{d, s, make(s)}
}

func ofBroker(s *store.Store) calls { return broker.New(s) }

func (x stage) all() string { return stored(x.s) + "\n" + disked(x.d) + "\n" + connected(x.b) }

// sum is all that can be seen, or, for most numbers, just what costs little to ask, as a number.
func (x stage) sum(n int) uint32 {
	h := crc32.NewIEEE()
	fmt.Fprint(h, x.s.Next(), x.s.Bindings(), x.b.Conns())
	for _, c := range x.s.Queues() {
		fmt.Fprint(h, c)
		for _, e := range x.s.Entries(c.Name) {
			h.Write(e.Data)
			fmt.Fprint(h, e.Seq, e.Priority, e.Expiry, e.Durable, e.Count, e.Holder)
		}
	}
	if n%25 == 0 {
		h.Write([]byte(x.all()))
	}
	return h.Sum32()
}

// roomOf is a disk's room, by chance: much, or so little that it is full now and then.
func roomOf(r *rand.Rand) int { return anyOf(r, maxDisk, maxDisk, 3000, 8000) }

// DOC.md's R6, and all of P23.2 to P23.11: any calls, and any bytes of peers by chance: a broker answers, writes and stores what another one does that is made another way.
func TestAnyCalls(t *testing.T) {
	met := map[string]int{}
	for seed := range int64(200) {
		r := rand.New(rand.NewSource(seed))
		w := &chance{Rand: r, wild: seed%2 == 0}
		room := roomOf(r)
		a := staged(t, room, ofBroker)
		b := staged(t, room, func(s *store.Store) calls { return newModel(s, met) })
		steps := w.first()
		for n := range 300 {
			if n >= len(steps) {
				steps = append(steps, w.next())
			}
			x := steps[n]
			if got, want := x.do(a), x.do(b); got != want {
				t.Fatalf("seed %d, %d: %s: %s, want %s", seed, n, x.name, got, want)
			}
			if a.sum(n) != b.sum(n) {
				t.Fatalf("seed %d, %d: behind %s:\n%s\nwant\n%s", seed, n, x.name, a.all(), b.all())
			}
			for c := range maxConns + 1 {
				if r.Intn(3) == 0 {
					continue // it goes out later
				}
				got, want := a.b.Out(c), b.b.Out(c)
				if string(got) != string(want) {
					t.Fatalf("seed %d, %d: behind %s: connection %d:%s\nwant%s", seed, n, x.name, c, lines(got), lines(want))
				}
				w.hears(c, got)
			}
		}
	}
	for _, want := range []string{
		"a topic of 0", "a topic of 1", "a topic of 2", "disk full", "made short", "done in a transaction", "down", "drained", "expired", "link ends", "no outcome", "not sent 2", "over", "refused by the end",
		"refused invalid-field", "refused not-found", "refused not-implemented", "refused resource-limit-exceeded",
		"to queue: accepted", "to queue: decode-error", "to queue: resource-limit-exceeded", "to queue: within, accepted", "to queue: within, decode-error", "to queue: within, not-found",
		"to topic: accepted", "to topic: decode-error", "to topic: resource-limit-exceeded", "to topic: within, accepted", "to topic: within, decode-error", "to topic: within, not-found",
		"to txns: accepted", "to txns: declared", "to txns: not-implemented", "to txns: resource-limit-exceeded", "to txns: transaction-rollback", "to txns: unknown-id", "said of what is done with",
	} {
		if met[want] == 0 {
			t.Errorf("not met: %s", want)
		}
	}
	for _, a := range []bool{false, true} {
		for _, b := range []bool{false, true} {
			if what := fmt.Sprintf("sent, copied %t, settled %t", a, b); met[what] < 100 {
				t.Errorf("%s: only %d times", what, met[what])
			}
			for _, outcome := range []string{"0 false", "36 false", "37 false", "38 false", "39 false", "39 true"} {
				if what := fmt.Sprintf("outcome %s settled %t", outcome, a); met[what] < 10 {
					t.Errorf("%s: only %d times", what, met[what])
				}
			}
		}
	}
}

// DOC.md's R1: bytes that were changed on their way, at any place, or of which some are missing: a broker does what the other one does, whatever it may be.
func TestAnyBytes(t *testing.T) {
	over, met := 0, map[string]int{}
	for seed := range int64(60) {
		c := anyCourse(t, seed)
		r := rand.New(rand.NewSource(seed))
		if len(c.bytes) == 0 {
			continue
		}
		for range 6 {
			b := slices.Clone(c.bytes)
			for range 1 + r.Intn(3) {
				at := r.Intn(len(b))
				switch r.Intn(4) {
				case 0:
					b = slices.Delete(b, at, min(len(b), at+1+r.Intn(9)))
				case 1:
					b = slices.Insert(b, at, byte(r.Intn(256)))
				default:
					b[at] = anyOf(r, byte(r.Intn(256)), b[at]^1, b[at]+1)
				}
				b = append(b, 0)
			}
			var told []string
			for _, make := range []func(s *store.Store) calls{ofBroker, func(s *store.Store) calls { return newModel(s, met) }} {
				x := staged(t, c.room, make)
				for _, s := range c.steps {
					s.do(x)
				}
				s := fmt.Sprint(x.b.Feed(c.n, b), x.b.Tick(0))
				for k := range maxConns + 1 {
					s += fmt.Sprintf("\n%d:%s", k, lines(x.b.Out(k)))
				}
				told = append(told, s+x.all())
			}
			if told[0] != told[1] {
				t.Fatalf("seed %d: %s\nwant %s", seed, told[0], told[1])
			}
			if strings.Contains(told[0], "true{ Cond") {
				over++
			}
		}
	}
	if over < 100 {
		t.Errorf("only %d were over", over)
	}
}
