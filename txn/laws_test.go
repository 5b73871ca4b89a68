package txn_test

import (
	"fmt"
	"math/rand"
	"testing"

	"longshore/api"
	"longshore/disk"
)

// play is a store behind some calls, and a transaction there; the same seed makes the same one again.
func play(t *testing.T, seed int64) (*base, string, int) {
	t.Helper()
	r := rand.New(rand.NewSource(seed))
	p := anyPair(t, r)
	do := func(n int, any func() asked) {
		for range n {
			a := any()
			a.call(p.b.s, p.b.x)
			a.call(p.m.s, p.m)
		}
	}
	do(20+r.Intn(60), func() asked { return anyOfStore(r, p.m.s) })
	owner := r.Intn(3)
	id := p.b.open(t, owner)
	p.m.Declare(owner)
	do(r.Intn(18), func() asked {
		for {
			if a := anyCall(r, p.m); a.name[:3] == "Put" || a.name[:4] == "Done" {
				return a
			}
		}
	})
	if r.Intn(3) == 0 {
		do(2, func() asked { return anyOfStore(r, p.m.s) })
	}
	return p.b, id, owner
}

// P22.7, and DOC.md's P0.4: at whichever act of a Discharge the power fails, with any keep, the store that is opened behind it is the one ahead of the transaction, or the one behind it; the latter, if it was answered OK. With any error the store that answered has not changed.
func TestWholeOrNotAtAll(t *testing.T) {
	met := map[string]int{}
	for seed := range int64(600) {
		b, id, owner := play(t, seed)
		ahead, before := told(behindFall(t, b.d)), told(b.s)
		want := b.x.Discharge(id, owner, false)
		behind, after := told(behindFall(t, b.d)), told(b.s)
		if want != api.OK && (after != before || behind != ahead) {
			t.Fatalf("seed %d: %d, but %s\nbefore: %s", seed, want, after, before)
		}
		met[fmt.Sprint(want)]++
		if ahead == behind {
			met["nothing that is written"]++
			if seed%10 > 0 {
				continue
			}
		}
		for n := range 4 {
			for _, keep := range keeps() {
				b, id, owner := play(t, seed)
				b.d.Arm(n, keep)
				e := b.x.Discharge(id, owner, false)
				stands := told(b.s)
				if !b.d.Up() {
					met[fmt.Sprint("falls in act ", n)]++
				}
				switch {
				case b.d.Up() && (e != want || stands != after):
					t.Fatalf("seed %d, %d acts: %d, %s\nwant %d, %s", seed, n, e, stands, want, after)
				case !b.d.Up() && (e != api.ErrDown || stands != before):
					t.Fatalf("seed %d, %d acts, keep %d: %d, %s\nbefore: %s", seed, n, keep, e, stands, before)
				}
				b.wantOpen(t)
				b.d.Crash(keep)
				b.d.Start()
				got := told(opened(t, b.d))
				if got != behind && (got != ahead || e != api.ErrDown) {
					t.Fatalf("seed %d, %d acts, keep %d: %d, then %s\nahead of it %s\nbehind it %s", seed, n, keep, e, got, ahead, behind)
				}
				if ahead != behind {
					met[fmt.Sprint(e, " ", got == behind)]++
				}
			}
		}
	}
	for _, want := range []string{"0", "170", "171", "nothing that is written", "falls in act 0", "falls in act 1", "0 true", "3 true", "3 false"} {
		if met[want] < 15 {
			t.Errorf("%s: only %d times", want, met[want])
		}
	}
}

// P22.7: with fail, and by Drop, nothing is done, in the store as in its files; and so it is with all that comes ahead of a Discharge.
func TestNothingIsDone(t *testing.T) {
	for seed := range int64(400) {
		b, id, owner := play(t, seed)
		before, files := told(b.s), seen(b.d)
		if seed%2 == 0 {
			wantErrno(t, "Discharge", b.x.Discharge(id, owner, true), api.OK)
		} else if n := b.x.Drop(owner); n != 1 {
			t.Fatalf("Drop: %d", n)
		}
		if told(b.s) != before || seen(b.d) != files {
			t.Fatalf("seed %d: %s, %s\nbefore: %s, %s", seed, told(b.s), seen(b.d), before, files)
		}
	}
}

// P22.7: a transaction that fails through lack of room, or of power, is none: declared and filled anew, behind a restart, it is done as if nothing had been.
func TestDoneBehindRestart(t *testing.T) {
	e := durable(0, 4)
	fill := func(b *base) string {
		t.Helper()
		id := b.open(t, 1)
		b.puts(t, id, 1, "q", e, e)
		b.done(t, id, 1, "q", 1, 7, accepted)
		b.done(t, id, 1, "q", 2, 7, rejected)
		return id
	}
	for n := range 2 {
		for _, keep := range keeps() {
			b := example(t)
			id := fill(b)
			b.d.Arm(n, keep)
			wantErrno(t, "Discharge", b.x.Discharge(id, 1, false), api.ErrDown)
			b.d.Start()
			b = over(t, b.d)
			if len(b.s.Entries("d")) == 0 { // the batch is not there
				b.wantEntries(t, "q", durable(1, 4), durable(2, 4))
				b.take(t, "q", 7, 1, 2)
				wantErrno(t, "Discharge", b.x.Discharge(fill(b), 1, false), api.OK)
			}
			three, four := turned(e, numbered(3)), turned(e, numbered(4))
			b.wantEntries(t, "q", three, four)
			b.wantEntries(t, "d", as(durable(2, 4), 5, 0))
			b.wantNext(t, 6)
		}
	}
}

// P22.7: messages that go to and fro between two queues, many times, are neither lost nor doubled, wherever the power fails.
func TestNothingIsLost(t *testing.T) {
	r := rand.New(rand.NewSource(223))
	falls, moved := 0, 0
	for range 60 {
		d := disk.New(maxDisk)
		b := over(t, d, declare(lasting("a", 20)), declare(lasting("b", 20)))
		for i := range 10 {
			b.apply(t, put(anyOf(r, "a", "b"), turned(durable(i+1, 4), func(e *api.Entry) { e.Data = fmt.Append(nil, "message ", i) })))
		}
		for range 60 {
			from, to := "a", "b"
			if r.Intn(2) == 0 {
				from, to = to, from
			}
			id := b.open(t, 1)
			for range 1 + r.Intn(3) {
				if e, is := b.s.Take(from, 7, nil); is {
					b.done(t, id, 1, from, e.Seq, 7, accepted)
					b.puts(t, id, 1, to, turned(e, func(e *api.Entry) { e.Holder = 0 }))
					moved++
				}
			}
			if r.Intn(3) == 0 {
				d.Arm(r.Intn(3), anyOf(r, keeps()...))
			}
			b.x.Discharge(id, 1, r.Intn(9) == 0)
			b.s.Release(7)
			if !d.Up() || r.Intn(9) == 0 {
				d.Crash(0)
				d.Start()
				b = over(t, d)
				falls++
			}
			there := map[string]int{}
			for _, e := range append(b.s.Entries("a"), b.s.Entries("b")...) {
				there[string(e.Data)]++
			}
			if len(there) != 10 || len(b.s.Entries("a"))+len(b.s.Entries("b")) != 10 {
				t.Fatalf("%v", there)
			}
		}
	}
	if falls < 300 || moved < 1000 {
		t.Errorf("%d falls, %d moved", falls, moved)
	}
}
