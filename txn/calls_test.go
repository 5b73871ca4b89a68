package txn_test

import (
	"fmt"
	"math/rand"
	"slices"
	"strings"
	"testing"

	"longshore/api"
	"longshore/disk"
	"longshore/store"
	"longshore/txn"
)

func anyOf[T any](r *rand.Rand, l ...T) T { return l[r.Intn(len(l))] }

// someNames are those of queues and of dead ones; a queue of the last one is never made.
func someNames() []string { return []string{"a", "b", "d", "x"} }

func anyConfig(r *rand.Rand, name string) api.QueueConfig {
	c := api.QueueConfig{Name: name, Most: 1 + r.Intn(8), Tries: r.Intn(4), Durable: r.Intn(3) > 0}
	if dead := anyOf(r, someNames()...); dead != name {
		c.Dead = dead
	}
	return c
}

// anyEntry is mostly one that may be put.
func anyEntry(r *rand.Rand, seq int) api.Entry {
	e := api.Entry{Seq: seq, Priority: r.Intn(10), Expiry: r.Intn(20) - 1, Durable: r.Intn(3) > 0, Count: r.Intn(3), Data: make([]byte, r.Intn(6))}
	r.Read(e.Data)
	switch r.Intn(60) {
	case 0:
		e.Priority = anyOf(r, -1, 10)
	case 1:
		e.Expiry = anyOf(r, -2, maxTime, maxTime+1)
	case 2:
		e.Count = anyOf(r, -1, maxWord, maxWord+1)
	case 3:
		e.Holder = anyOf(r, -1, 1)
	case 4, 5, 6:
		e.Data = make([]byte, 300)
	case 7:
		if r.Intn(4) == 0 {
			e.Data = make([]byte, maxMessage+1)
		}
	}
	return e
}

func anyOutcome(r *rand.Rand) api.State {
	if r.Intn(20) == 0 {
		return api.State{Kind: anyOf(r, 0, 35, 40, 51, 52, -1), Failed: r.Intn(2) == 0}
	}
	return anyOf(r, accepted, accepted, rejected, released, modified, failed, failed, api.State{Kind: api.KRejected, Failed: true}, api.State{Kind: api.KReleased, Failed: true})
}

// anyQueue is one that is there, mostly.
func anyQueue(r *rand.Rand, s *store.Store) string {
	l := s.Queues()
	if len(l) == 0 || r.Intn(15) == 0 {
		return anyOf(r, someNames()...)
	}
	return l[r.Intn(len(l))].Name
}

// anyMessage is one that is there, mostly, and held, with its queue.
func anyMessage(r *rand.Rand, s *store.Store) (string, api.Entry) {
	queue, e := anyQueue(r, s), api.Entry{Seq: r.Intn(s.Next()%1000 + 2), Holder: r.Intn(4)}
	if r.Intn(12) == 0 {
		return queue, e
	}
	for range 8 {
		queue = anyQueue(r, s)
		if l := s.Entries(queue); len(l) > 0 {
			e = l[r.Intn(len(l))]
		}
		if e.Holder > 0 {
			break
		}
	}
	return queue, e
}

// pair is a base, and another one whose transactions are the model's.
type pair struct {
	b    *base
	twin *disk.Disk
	m    *model
}

func anyPair(t *testing.T, r *rand.Rand) *pair {
	t.Helper()
	room := anyOf(r, 700, 1200, 4000, maxDisk)
	var ops []api.Op
	for _, name := range someNames()[:3] {
		ops = append(ops, declare(anyConfig(r, name)))
	}
	twin := made(t, room, ops...)
	return &pair{b: made(t, room, ops...), twin: twin.d, m: &model{s: twin.s}}
}

// open opens both anew.
func (p *pair) open() (string, string) {
	s, e := store.Open(p.b.d)
	if s != nil {
		p.b.s, p.b.x = s, txn.New(s)
	}
	u, want := store.Open(p.twin)
	if u != nil {
		p.m = &model{s: u}
	}
	return fmt.Sprint(e, " ", s != nil), fmt.Sprint(want, " ", u != nil)
}

// asked is a call with its arguments.
type asked struct {
	name string
	call func(s *store.Store, x calls) string
}

func applied(ops ...api.Op) asked {
	return asked{fmt.Sprintf("Apply %+v", ops), func(s *store.Store, _ calls) string { n, e := s.Apply(ops); return fmt.Sprint(e, " ", n) }}
}

// anyOfStore is a call of the store by somebody else.
func anyOfStore(r *rand.Rand, s *store.Store) asked {
	queue, e := anyMessage(r, s)
	holder := 1 + r.Intn(3)
	switch n := r.Intn(60); {
	case n < 2:
		return applied(declare(anyConfig(r, anyOf(r, someNames()[:3]...))))
	case n < 3:
		return applied(gone(queue))
	case n < 24:
		return applied(put(anyQueue(r, s), turned(anyEntry(r, s.Next()), func(e *api.Entry) { e.Data = e.Data[:len(e.Data)%301] })))
	case n < 26:
		return applied(remove(queue, e.Seq))
	case n < 52:
		queue := anyQueue(r, s)
		return asked{fmt.Sprint("Take ", queue, " ", holder), func(s *store.Store, _ calls) string {
			e, is := s.Take(queue, holder, nil)
			return fmt.Sprint(is, " ", toldEntry(e))
		}}
	case n < 55:
		failed := r.Intn(2) == 0
		return asked{fmt.Sprint("Back ", queue, " ", e.Seq, " ", e.Holder, " ", failed), func(s *store.Store, _ calls) string { return fmt.Sprint(s.Back(queue, e.Seq, e.Holder, failed)) }}
	case n < 56:
		return asked{fmt.Sprint("Bury ", queue, " ", e.Seq, " ", e.Holder), func(s *store.Store, _ calls) string { return fmt.Sprint(s.Bury(queue, e.Seq, e.Holder)) }}
	case n < 57:
		return asked{fmt.Sprint("Release ", holder), func(s *store.Store, _ calls) string { return fmt.Sprint(s.Release(holder)) }}
	case n < 58:
		now := r.Intn(8)
		return asked{fmt.Sprint("Expire ", now), func(s *store.Store, _ calls) string { n, e := s.Expire(now); return fmt.Sprint(e, " ", n) }}
	}
	return asked{"Compact", func(s *store.Store, _ calls) string { return fmt.Sprint(s.Compact()) }}
}

// anyOpen is the name and the owner of a transaction that is open, mostly.
func anyOpen(r *rand.Rand, m *model) (string, int) {
	if len(m.l) == 0 || r.Intn(15) == 0 {
		return anyOf(r, "t1", "t2", "t3", "", "x"), r.Intn(3)
	}
	x := m.l[r.Intn(len(m.l))]
	if r.Intn(20) == 0 {
		return x.id, x.owner + 1
	}
	return x.id, x.owner
}

// anyCall is a call of the transactions with arguments by chance, most of them such as do something there.
func anyCall(r *rand.Rand, m *model) asked {
	id, owner := anyOpen(r, m)
	of := fmt.Sprintf(" %q %d ", id, owner)
	switch n := r.Intn(50); {
	case n < 7 || m.count%24 > 7 && n < 20: // now and then many
		owner := r.Intn(3) - 1
		return asked{fmt.Sprint("Declare ", owner), func(_ *store.Store, x calls) string { id, e := x.Declare(owner); return fmt.Sprintf("%d %q", e, id) }}
	case n < 22:
		queue, e := anyQueue(r, m.s), anyEntry(r, r.Intn(9)-2)
		return asked{fmt.Sprint("Put", of, queue, " ", toldEntry(e)), func(_ *store.Store, x calls) string { return fmt.Sprint(x.Put(id, owner, queue, e)) }}
	case n < 40:
		queue, e := anyMessage(r, m.s)
		outcome := anyOutcome(r)
		return asked{fmt.Sprint("Done", of, queue, " ", e.Seq, " ", e.Holder, " ", outcome.Kind, " ", outcome.Failed), func(_ *store.Store, x calls) string {
			return fmt.Sprint(x.Done(id, owner, queue, e.Seq, e.Holder, outcome))
		}}
	case n < 48:
		fail := r.Intn(8) == 0
		return asked{fmt.Sprint("Discharge", of, fail), func(_ *store.Store, x calls) string { return fmt.Sprint(x.Discharge(id, owner, fail)) }}
	case n < 49 && r.Intn(3) == 0:
		return asked{fmt.Sprint("Drop ", owner), func(_ *store.Store, x calls) string { return fmt.Sprint(x.Drop(owner)) }}
	}
	return asked{"Open", func(_ *store.Store, x calls) string { return fmt.Sprintf("%q", x.Open()) }}
}

// power does something to both disks.
func (p *pair) power(r *rand.Rand) string {
	acts, keep := r.Intn(8)-1, anyOf(r, keeps()...)
	name, do := fmt.Sprint("Arm ", acts, " ", keep), func(d *disk.Disk) { d.Arm(acts, keep) }
	switch r.Intn(6) {
	case 0:
		name, do = fmt.Sprint("Crash ", keep), func(d *disk.Disk) { d.Crash(keep) }
	case 1:
		b := make([]byte, r.Intn(200))
		name, do = "other Append", func(d *disk.Disk) { d.Append("x", b) }
	case 2:
		name, do = "other Delete", func(d *disk.Disk) { d.Delete("x") }
	}
	do(p.b.d)
	do(p.twin)
	return name
}

// any is any call, or any act, on both: what it was, and what was answered. A disk that is down is mostly taken up again.
func (p *pair) any(r *rand.Rand) (string, string, string) {
	n := r.Intn(60)
	switch {
	case !p.twin.Up() && n < 25:
		p.b.d.Start()
		p.twin.Start()
		got, want := p.open()
		return "Open behind Start", got, want
	case n < 1:
		return p.power(r), "", ""
	}
	a := anyCall(r, p.m)
	if n < 22 {
		a = anyOfStore(r, p.m.s)
	}
	return a.name, a.call(p.b.s, p.b.x), a.call(p.m.s, p.m)
}

// P22.1 to P22.6: any calls in any order, others' work on the store between, falls and restarts, held against the model, its store and its disk behind each of them.
// Transactions of two stores have nothing in common: several are used in turns.
func TestAnyCalls(t *testing.T) {
	r := rand.New(rand.NewSource(222))
	met := map[string]int{}
	for range 350 {
		pairs := []*pair{anyPair(t, r), anyPair(t, r)}
		var trace []string
		for range 400 {
			n := r.Intn(len(pairs))
			p := pairs[n]
			up, before := p.b.d.Up(), told(p.b.s)
			name, got, want := p.any(r)
			trace = append(trace, fmt.Sprint(n, ": ", name, " ", got))
			after := told(p.b.s)
			if got != want || after != told(p.m.s) || seen(p.b.d) != seen(p.twin) || !slices.Equal(p.b.x.Open(), p.m.Open()) {
				t.Fatalf("%s, want %s: %s\nwant %s\n%s\nwant %s\n%q, %q\n%s", got, want, after, told(p.m.s), seen(p.b.d), seen(p.twin), p.b.x.Open(), p.m.Open(), strings.Join(trace, "\n"))
			}
			first, _, _ := strings.Cut(name, " ")
			number, _, _ := strings.Cut(want, " ")
			met[first+" "+number]++
			if up && !p.b.d.Up() {
				met[first+" falls"]++
			}
			if changed := after != before; first == "Discharge" && changed {
				met["Discharge changes"]++
				if want != "0" || strings.HasSuffix(name, "true") {
					t.Fatalf("%s: %s has changed the store", name, got)
				}
			} else if changed && (first == "Declare" || first == "Put" || first == "Done" || first == "Drop") {
				t.Fatalf("%s has changed the store", name)
			}
		}
	}
	for _, want := range []string{
		"Declare 0", "Declare 221", "Put 0", "Put 2", "Put 171", "Put 210", "Put 220", "Done 0", "Done 1", "Done 171", "Done 210", "Done 220",
		"Discharge 0", "Discharge 3", "Discharge 170", "Discharge 171", "Discharge 190", "Discharge 210", "Discharge 220", "Discharge falls", "Discharge changes", "Drop 0", "Drop 1", "Drop 2",
	} {
		if met[want] < 20 {
			t.Errorf("%s: only %d times", want, met[want])
		}
	}
}

// DOC.md's R6: the same calls have the same answers, however maps are gone through.
func TestSameAgain(t *testing.T) {
	for seed := range 60 {
		var first string
		for range 3 {
			r := rand.New(rand.NewSource(int64(seed)))
			p := anyPair(t, r)
			var s strings.Builder
			for range 200 {
				name, got, _ := p.any(r)
				s.WriteString(name + " " + got + p.b.all() + "\n")
			}
			if first == "" {
				first = s.String()
			}
			if s.String() != first {
				t.Fatalf("%s, first: %s", s.String(), first)
			}
		}
	}
}
