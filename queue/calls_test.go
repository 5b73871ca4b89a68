package queue_test

import (
	"fmt"
	"math/rand"
	"slices"
	"strings"
	"testing"

	"longshore/api"
	"longshore/queue"
)

// asked is a call with its arguments.
type asked struct {
	name string
	call func(c calls) string
}

func anyOf[T any](r *rand.Rand, l ...T) T { return l[r.Intn(len(l))] }

func anyConfig(r *rand.Rand) api.QueueConfig {
	c := api.QueueConfig{Name: "q", Most: 1 + r.Intn(8), Tries: r.Intn(4), Durable: r.Intn(2) == 0}
	if r.Intn(3) == 0 {
		c.Most += r.Intn(60) // so that the order goes deep
	}
	switch r.Intn(20) {
	case 0:
		c.Name = anyOf(r, goodNames()...)
	case 1:
		c.Name = anyOf(r, badNames()...)
	case 2:
		c.Dead = anyOf(r, slices.Concat(goodNames(), badNames())...)
	case 3:
		c.Most = anyOf(r, slices.Concat(far, []int{-1, 0, 1, maxQueue, maxQueue + 1})...)
	case 4:
		c.Tries = anyOf(r, slices.Concat(far, []int{-1, 0, maxWord, maxWord + 1})...)
	}
	return c
}

var tooMuch = make([]byte, maxMessage+1)

// anyEntry is mostly one that may be, a little above a number.
func anyEntry(r *rand.Rand, above int) api.Entry {
	e := api.Entry{Seq: above + 1 + r.Intn(3), Priority: r.Intn(10), Expiry: r.Intn(30) - 1, Durable: r.Intn(2) == 0, Data: make([]byte, r.Intn(4))}
	r.Read(e.Data)
	if r.Intn(3) == 0 {
		e.Priority, e.Expiry, e.Count = 4, -1, anyOf(r, 0, 1, 2, maxWord-1, maxWord)
	}
	if r.Intn(8) == 0 {
		n := numbers[r.Intn(len(numbers))]
		*n.at(&e) = anyOf(r, slices.Concat(n.good[:1], n.bad)...)
	}
	if r.Intn(8) == 0 {
		e.Seq = above - r.Intn(4)
	}
	if r.Intn(50) == 0 {
		e.Data = tooMuch
	}
	return e
}

// anyFits is nothing, or a fits that says true of some, notes what it was asked of, and overwrites that.
func anyFits(r *rand.Rand) (string, func(note *strings.Builder) func(api.Entry) bool) {
	kind, n := r.Intn(5), r.Intn(10)
	says := func(e api.Entry) bool {
		return kind == 1 || kind == 2 && e.Priority > n || kind == 3 && e.Seq%5 == n || kind == 4 && len(e.Data) > n/3
	}
	if kind == 0 && n < 8 {
		return "nil", func(*strings.Builder) func(api.Entry) bool { return nil }
	}
	return fmt.Sprint("fits", kind, n), func(note *strings.Builder) func(api.Entry) bool {
		return func(e api.Entry) bool {
			is := says(e)
			fmt.Fprint(note, " asked of ", e)
			clear(e.Data[:cap(e.Data)])
			return is
		}
	}
}

// anyCall is a call with arguments by chance, most of them such as do something where the queue has had Seqs up to one.
func anyCall(r *rand.Rand, highest int, here []api.Entry) asked {
	holder, seq, failed, now := r.Intn(5)-1, highest-r.Intn(12), r.Intn(3) > 0, r.Intn(34)-2
	if len(here) > 0 && r.Intn(4) > 0 {
		e := here[r.Intn(len(here))]
		seq = e.Seq
		if r.Intn(4) > 0 {
			holder = e.Holder
		}
	}
	if r.Intn(30) == 0 {
		holder, seq, now = anyOf(r, far...), anyOf(r, far...), anyOf(r, far...)
	}
	name, fits := anyFits(r)
	switch r.Intn(14) {
	case 0, 1, 2, 3:
		e := anyEntry(r, highest)
		return asked{fmt.Sprint("Put ", brief(e), " of ", len(e.Data)), func(c calls) string { return fmt.Sprint(c.Put(e)) }}
	case 4, 5, 6:
		return asked{fmt.Sprint("Take ", holder, name), func(c calls) string {
			var note strings.Builder
			e, is := c.Take(holder, fits(&note))
			return fmt.Sprint(is, e, note.String())
		}}
	case 7:
		return asked{fmt.Sprint("Peek ", seq, name), func(c calls) string {
			var note strings.Builder
			e, is := c.Peek(seq, fits(&note))
			return fmt.Sprint(is, e, note.String())
		}}
	case 8, 9:
		return asked{fmt.Sprint("Back ", seq, holder, failed), func(c calls) string {
			e, dead, err := c.Back(seq, holder, failed)
			return fmt.Sprint(err, dead, e)
		}}
	case 10:
		return asked{fmt.Sprint("Remove ", seq, holder), func(c calls) string {
			e, err := c.Remove(seq, holder)
			return fmt.Sprint(err, e)
		}}
	case 11:
		return asked{fmt.Sprint("Release ", holder), func(c calls) string { l := c.Release(holder); return fmt.Sprint(len(l), l) }}
	case 12:
		return asked{fmt.Sprint("Expire ", now), func(c calls) string { l := c.Expire(now); return fmt.Sprint(len(l), l) }}
	}
	return rangedOver(r, highest, here)
}

// rangedOver is a range over All that is left somewhere, within which, somewhere, another call is made.
func rangedOver(r *rand.Rand, highest int, here []api.Entry) asked {
	inner, leave, at := anyOther(r, highest, here), r.Intn(9), r.Intn(4)
	return asked{fmt.Sprint("All ", leave, at, inner.name), func(c calls) string {
		s, n := "", 0
		for e := range c.All() {
			s += fmt.Sprint(e)
			if n == at {
				s += inner.call(c)
			}
			n++
			if n == leave {
				break
			}
		}
		return s
	}}
}

// anyOther is a call that is no range.
func anyOther(r *rand.Rand, highest int, here []api.Entry) asked {
	for {
		if a := anyCall(r, highest, here); !strings.HasPrefix(a.name, "All") {
			return a
		}
	}
}

// highestOf is the highest Seq that was ever Put, as the model has it.
func highestOf(m *model) int {
	if len(m.was) == 0 {
		return 0
	}
	return m.was[len(m.was)-1].e.Seq
}

// P17.1 to P17.10: any calls in any order, held against the model behind each of them.
// DOC.md's R6: several queues are used in turns, each with a model of its own; they have nothing in common.
func TestAnyCalls(t *testing.T) {
	r := rand.New(rand.NewSource(171))
	for range 150 {
		var queues []*queue.Queue
		var models []*model
		for len(queues) < 3 {
			c := anyConfig(r)
			q, m := queue.New(c), newModel(c)
			if (q == nil) != (m == nil) {
				t.Fatalf("New(%s): %v, want %v", told(c), q, m)
			}
			if q != nil {
				queues, models = append(queues, q), append(models, m)
			}
		}
		for range 150 {
			i := r.Intn(len(queues))
			q, m := queues[i], models[i]
			a := anyCall(r, highestOf(m), slices.Collect(m.All()))
			if got, want := a.call(q), a.call(m); got != want {
				t.Fatalf("%s: %s, want %s, where %s", a.name, got, want, seen(m))
			}
			for i, q := range queues {
				if got, want := seen(q), seen(models[i]); got != want {
					t.Fatalf("behind %s: %s, want %s", a.name, got, want)
				}
			}
		}
	}
}

// The calls by chance come to all answers; else they would show little.
func TestAnyCallsComeToAll(t *testing.T) {
	r := rand.New(rand.NewSource(172))
	met := map[string]int{}
	for range 600 {
		m := newModel(anyConfig(r))
		if m == nil {
			met["nil"]++
			continue
		}
		for range 60 {
			a := anyCall(r, highestOf(m), slices.Collect(m.All()))
			name, _, _ := strings.Cut(a.name, " ")
			answer := a.call(m)
			first, _, _ := strings.Cut(answer, " ")
			if name != "All" {
				met[name+" "+first]++
			}
			met[fmt.Sprint(name, " asked ", min(strings.Count(answer, "asked"), 3))]++
			met[fmt.Sprint(name, " dead ", strings.HasPrefix(answer, "0 true"))]++
			free, held := m.Len()
			met[fmt.Sprint("free ", free)]++
			met[fmt.Sprint("held ", held)]++
		}
	}
	for _, want := range []string{"nil", "Put 0", "Put 2", "Put 170", "Put 171", "Take true", "Take false", "Take asked 0", "Take asked 1", "Take asked 3", "Peek true", "Peek false", "Peek asked 3",
		"Back 0", "Back 171", "Back dead true", "Remove 0", "Remove 171", "Release 0", "Release 1", "Release 2", "Expire 0", "Expire 1", "Expire 2", "All asked 1", "free 0", "free 4", "held 0", "held 3"} {
		if met[want] < 20 {
			t.Errorf("%s: only %d times of %v", want, met[want], met)
		}
	}
}

// DOC.md's R6: the same calls, the same answers, whatever was called at others.
func TestSameCallsSameAnswers(t *testing.T) {
	play := func(seed int64) string {
		r := rand.New(rand.NewSource(seed))
		q := made(t, config(6, 2))
		var b strings.Builder
		for i := range 200 {
			b.WriteString(anyCall(r, i, slices.Collect(q.All())).call(q) + seen(q))
		}
		return b.String()
	}
	for seed := range int64(20) {
		first := play(seed)
		play(seed + 100)
		if play(seed) != first {
			t.Errorf("seed %d: other answers to the same calls", seed)
		}
	}
}

// Two queues of one Config, filled with the same Seqs, have nothing in common.
func TestTwoQueues(t *testing.T) {
	a, b := busy(t), busy(t)
	stood := seen(b)
	r := rand.New(rand.NewSource(173))
	for range 300 {
		anyCall(r, 20+r.Intn(40), slices.Collect(a.All())).call(a)
		if seen(b) != stood {
			t.Fatalf("%s, before: %s", seen(b), stood)
		}
	}
	for range 10 {
		a.Release(1)
		a.Expire(maxTime)
		for e := range a.All() {
			a.Remove(e.Seq, e.Holder)
		}
	}
	kept := seen(a)
	if probed(b) != probed(busy(t)) {
		t.Error("the other one has changed")
	}
	if seen(a) != kept {
		t.Errorf("%s, before: %s", seen(a), kept)
	}
}

// DOC.md's R1: every call ends and none panics, at all arguments.
func TestExtremes(t *testing.T) {
	all := slices.Concat(far, []int{-2, -1, 0, 1, 2, 5, 9, 10, 12, maxWord, maxWord + 1, maxTime, maxTime + 1})
	q := busy(t)
	for _, a := range all {
		for _, b := range all {
			q.Take(a, hasSeq(b))
			q.Peek(a, hasSeq(b))
			q.Back(a, b, a < b)
			q.Remove(a, b)
			q.Release(b)
			q.Expire(min(a, 40))
			q.Put(api.Entry{Seq: b, Priority: a, Expiry: b, Count: a, Holder: b})
			q.Put(api.Entry{Seq: 9, Priority: b, Expiry: a, Count: b, Holder: a})
			if free, held := q.Len(); free < 0 || held < 0 || free+held > 7 {
				t.Fatalf("Len(): %d, %d", free, held)
			}
		}
	}
}
