package queue_test

import (
	"fmt"
	"maps"
	"math/rand"
	"slices"
	"strings"
	"testing"

	"longshore/api"
	"longshore/queue"
)

// book is what a queue was given, and what has left, by what it answered; it knows no order.
type book struct {
	q    *queue.Queue
	here map[int]api.Entry
	was  map[int]bool
}

// step makes a call by chance, and writes down what it did.
func (b *book) step(t *testing.T, r *rand.Rand, highest *int) {
	t.Helper()
	seq, holder := *highest-r.Intn(9), r.Intn(3)
	switch r.Intn(7) {
	case 0, 1, 2:
		e := anyEntry(r, *highest)
		if b.q.Put(e) == api.OK {
			if b.was[e.Seq] {
				t.Fatalf("%d was there", e.Seq)
			}
			b.here[e.Seq], b.was[e.Seq], *highest = e, true, e.Seq
		}
	case 3:
		if e, is := b.q.Take(holder, nil); is {
			b.here[e.Seq] = held(b.here[e.Seq], holder)
		}
	case 4:
		if e, dead, err := b.q.Back(seq, holder, r.Intn(2) == 0); dead {
			delete(b.here, seq)
		} else if err == api.OK {
			b.here[seq] = counted(held(b.here[seq], 0), e.Count)
		}
	case 5:
		if _, err := b.q.Remove(seq, holder); err == api.OK {
			delete(b.here, seq)
		}
	case 6:
		for _, seq := range b.q.Release(holder) {
			b.here[seq] = held(b.here[seq], 0)
		}
		for _, e := range b.q.Expire(r.Intn(20)) {
			delete(b.here, e.Seq)
		}
	}
}

// P17.10: never more than Most; nothing that was not Put, nothing twice; what leaves, leaves by what was answered; all but Count and Holder stay as they came.
func TestNothingComesOrGoes(t *testing.T) {
	r := rand.New(rand.NewSource(174))
	for _, most := range []int{1, 2, 5, 20} {
		for range 20 {
			b := &book{q: made(t, config(most, r.Intn(4))), here: map[int]api.Entry{}, was: map[int]bool{}}
			highest := 0
			for range 200 {
				b.step(t, r, &highest)
				got := slices.Collect(b.q.All())
				if free, held := b.q.Len(); free+held > most || free+held != len(got) {
					t.Fatalf("%d free, %d held, %d in all, of %d", free, held, len(got), most)
				}
				slices.SortFunc(got, func(a, b api.Entry) int { return a.Seq - b.Seq })
				var want []api.Entry
				for _, seq := range slices.Sorted(maps.Keys(b.here)) {
					want = append(want, b.here[seq])
				}
				if told(got) != told(want) {
					t.Fatalf("%s, want %s", told(got), told(want))
				}
			}
		}
	}
}

// P17.11: taken without a fits, and Removed by who has it: of one priority in the order in which they were Put, whatever is Put between, and none while one of a higher priority is free.
func TestInOrder(t *testing.T) {
	r := rand.New(rand.NewSource(175))
	for range 100 {
		q := made(t, config(40, 1))
		seq, took := 0, 0
		var free [10][]int // Seqs, as they were Put
		last := [10]int{}
		holding := map[int]int{}
		for range 400 {
			if r.Intn(2) == 0 {
				seq += 1 + r.Intn(3)
				e := entry(seq, r.Intn(10))
				if q.Put(e) == api.OK {
					free[e.Priority] = append(free[e.Priority], seq)
				}
				continue
			}
			if r.Intn(3) == 0 {
				for s, holder := range holding {
					if _, err := q.Remove(s, holder); err != api.OK {
						t.Fatalf("Remove(%d, %d): %d", s, holder, err)
					}
					delete(holding, s)
				}
			}
			holder := 1 + r.Intn(3)
			e, is := q.Take(holder, nil)
			if !is {
				continue
			}
			took++
			for p := e.Priority + 1; p < 10; p++ {
				if len(free[p]) > 0 {
					t.Fatalf("took %s, while %d of priority %d are free", brief(e), len(free[p]), p)
				}
			}
			if e.Seq <= last[e.Priority] || len(free[e.Priority]) == 0 || free[e.Priority][0] != e.Seq {
				t.Fatalf("took %s behind %d, where %v are free", brief(e), last[e.Priority], free[e.Priority])
			}
			free[e.Priority], last[e.Priority], holding[e.Seq] = free[e.Priority][1:], e.Seq, holder
		}
		if took < 50 {
			t.Fatalf("took only %d", took)
		}
	}
}

// P17.2, P17.10, P17.11: a queue of 4096, filled, held, emptied, filled again.
func TestTheGreatestQueue(t *testing.T) {
	q := made(t, config(maxQueue, 2))
	seq := 0
	for round := range 3 {
		var want [10][]int
		for i := range maxQueue {
			seq++
			put(t, q, until(entry(seq, i*7%10), seq%2-1))
			want[i*7%10] = append(want[i*7%10], seq)
		}
		wantErrno(t, "Put", q.Put(entry(seq+1, 9)), api.ErrQueueFull)
		wantLen(t, q, maxQueue, 0)
		var got [10][]int
		for i := range maxQueue {
			e, is := q.Take(i%2+1, nil)
			if !is || e.Holder != i%2+1 {
				t.Fatalf("Take: %s, %v", told(e), is)
			}
			got[e.Priority] = append(got[e.Priority], e.Seq)
		}
		if fmt.Sprint(got) != fmt.Sprint(want) {
			t.Fatal("taken in another order")
		}
		wantErrno(t, "Put", q.Put(entry(seq+1, 9)), api.ErrQueueFull)
		wantLen(t, q, 0, maxQueue)
		if l := q.Release(1); len(l) != maxQueue/2 || !slices.IsSorted(l) {
			t.Fatalf("Release: %d", len(l))
		}
		for e := range q.All() {
			if e.Holder == 2 {
				wantBack(t, q, e.Seq, 2, round == 1, counted(held(e, 0), round%2), false)
			}
		}
		gone := q.Expire(0)
		if len(gone) != maxQueue/2 || !slices.IsSortedFunc(gone, func(a, b api.Entry) int { return 10000*(b.Priority-a.Priority) + a.Seq - b.Seq }) {
			t.Fatalf("Expire: %d", len(gone))
		}
		for e := range q.All() {
			wantRemove(t, q, e.Seq, 0, e)
		}
		wantAll(t, q)
	}
}

// P17.4: Peek behind Peek goes through all free entries, each once, by rising Seq.
func TestPeekGoesThroughAll(t *testing.T) {
	r := rand.New(rand.NewSource(176))
	for range 50 {
		q := filled(t, 0)
		var want []string
		seq := 0
		for range 60 {
			seq += 1 + r.Intn(4)
			put(t, q, entry(seq, r.Intn(10)))
		}
		for range r.Intn(40) {
			q.Take(1, nil)
		}
		for e := range q.All() {
			if e.Holder == 0 {
				want = append(want, fmt.Sprintf("%06d", e.Seq))
			}
		}
		slices.Sort(want)
		var got []string
		for e, is := q.Peek(0, nil); is; e, is = q.Peek(e.Seq, nil) {
			got = append(got, fmt.Sprintf("%06d", e.Seq))
		}
		if strings.Join(got, " ") != strings.Join(want, " ") {
			t.Fatalf("%v, want %v", got, want)
		}
	}
}
