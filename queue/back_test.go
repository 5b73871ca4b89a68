package queue_test

import (
	"fmt"
	"math"
	"slices"
	"testing"

	"longshore/api"
	"longshore/queue"
)

// P17.5: ErrEntry where there is no entry with that Seq that is held by that holder.
func TestBackIsRefused(t *testing.T) {
	again := func() *queue.Queue { return busy(t) }
	for _, failed := range []bool{false, true} {
		refused := func(seq, holder int) {
			t.Helper()
			wantRefused(t, fmt.Sprintf("Back(%d, %d, %v)", seq, holder, failed), again, func(q *queue.Queue) { wantNoBack(t, q, seq, holder, failed) })
		}
		for _, seq := range slices.Concat(far, []int{0, -5, 1, 2, 4, 7, 9, 13, 19, 20, 21}) {
			refused(seq, 1)
			refused(seq, 0)
		}
		for _, holder := range slices.Concat(far, []int{-2, -1, 0, 1, 2, 3}) {
			for _, free := range []int{3, 8, 11} {
				refused(free, holder)
			}
			if holder != 1 {
				refused(5, holder)
				refused(6, holder)
			}
			if holder != 2 {
				refused(12, holder)
			}
		}
	}
}

// P17.5: what is given back is free again, once; by whom doesn't matter any more.
func TestBackIsFree(t *testing.T) {
	for _, holder := range []int{1, 2, maxWord, math.MaxInt} {
		e := entry(4, 4)
		q := filled(t, 0, e)
		wantTake(t, q, holder, nil, e)
		wantBack(t, q, 4, holder, false, e, false)
		wantAll(t, q, e)
		wantNoBack(t, q, 4, holder, false)
		wantPeek(t, q, 0, nil, e)
		wantTake(t, q, 9, nil, e)
		wantNoBack(t, q, 4, holder, true)
		wantBack(t, q, 4, 9, false, e, false)
		wantRemove(t, q, 4, 0, e)
	}
}

// P17.5: with failed the Count is one more, up to MaxWord; without it stays.
func TestBackCounts(t *testing.T) {
	for _, c := range []struct{ count, then int }{{0, 1}, {1, 2}, {9, 10}, {maxWord - 2, maxWord - 1}, {maxWord - 1, maxWord}, {maxWord, maxWord}} {
		e := counted(entry(4, 4), c.count)
		q := filled(t, 0, e)
		wantTake(t, q, 1, nil, e)
		wantBack(t, q, 4, 1, false, e, false)
		wantTake(t, q, 1, nil, e)
		wantBack(t, q, 4, 1, true, counted(e, c.then), false)
		wantAll(t, q, counted(e, c.then))
		wantTake(t, q, 2, nil, counted(e, c.then))
		wantBack(t, q, 4, 2, false, counted(e, c.then), false)
	}
	q := filled(t, 0, entry(4, 4))
	for n := range 1000 {
		wantTake(t, q, 1, nil, counted(entry(4, 4), n))
		wantBack(t, q, 4, 1, true, counted(entry(4, 4), n+1), false)
	}
}

// P17.5: dead is what has failed, where Tries is above 0 and the Count is that or more now; without failed nothing dies.
func TestDead(t *testing.T) {
	for _, c := range []struct {
		tries, count int
		dead         bool
	}{
		{0, 0, false}, {0, 1, false}, {0, maxWord - 1, false}, {0, maxWord, false},
		{1, 0, true}, {1, 1, true}, {1, 5, true}, {1, maxWord, true},
		{2, 0, false}, {2, 1, true}, {2, 2, true}, {2, 3, true},
		{5, 2, false}, {5, 3, false}, {5, 4, true}, {5, 5, true}, {5, 6, true},
		{maxWord - 1, maxWord - 3, false}, {maxWord - 1, maxWord - 2, true}, {maxWord - 1, maxWord, true},
		{maxWord, maxWord - 2, false}, {maxWord, maxWord - 1, true}, {maxWord, maxWord, true}, {maxWord, 0, false},
	} {
		for _, dead := range []string{"", "d"} {
			e, other := counted(entry(4, 4), c.count), counted(entry(5, 4), c.count)
			q := made(t, api.QueueConfig{Name: "q", Most: 2, Dead: dead, Tries: c.tries})
			put(t, q, e, other)
			wantTake(t, q, 1, nil, e)
			wantBack(t, q, 4, 1, false, e, false)
			wantTake(t, q, 1, nil, e)
			now := counted(e, min(c.count+1, maxWord))
			wantBack(t, q, 4, 1, true, now, c.dead)
			if !c.dead {
				wantAll(t, q, now, other)
				continue
			}
			wantAll(t, q, other)
			wantNoBack(t, q, 4, 1, true)
			wantNoBack(t, q, 4, 0, true)
			wantNoRemove(t, q, 4, 0)
			wantNoRemove(t, q, 4, 1)
			wantRelease(t, q, 1)
			wantErrno(t, "Put of a dead one", q.Put(e), api.ErrEntry)
			put(t, q, entry(6, 4))
		}
	}
}

// P17.5: what comes back stands where its Priority and its Seq say, whatever came between, and in which order they come back.
func TestBackStandsInOrder(t *testing.T) {
	for _, seqs := range orders([]int{1, 2, 3, 4, 5}) {
		for _, failed := range []bool{false, true} {
			q := filled(t, 0, entry(1, 4), entry(2, 9), entry(3, 4), entry(4, 0), entry(5, 9))
			for range 5 {
				q.Take(1, nil)
			}
			put(t, q, entry(6, 9), entry(7, 4))
			for _, seq := range seqs {
				_, _, e := q.Back(seq, 1, failed)
				wantErrno(t, "Back", e, api.OK)
			}
			var got []api.Entry
			for range 7 {
				e, _ := q.Take(1, nil)
				got = append(got, counted(held(e, 0), 0))
			}
			if brief(got...) != "2/9, 5/9, 6/9, 1/4, 3/4, 7/4, 4/0" {
				t.Fatalf("behind %v: %s", seqs, brief(got...))
			}
		}
	}
}

// P17.6: ErrEntry where there is no entry with that Seq and that Holder.
func TestRemoveIsRefused(t *testing.T) {
	again := func() *queue.Queue { return busy(t) }
	refused := func(seq, holder int) {
		t.Helper()
		wantRefused(t, fmt.Sprintf("Remove(%d, %d)", seq, holder), again, func(q *queue.Queue) { wantNoRemove(t, q, seq, holder) })
	}
	holders := map[int]int{3: 0, 5: 1, 6: 1, 8: 0, 11: 0, 12: 2}
	for _, holder := range slices.Concat(far, []int{-2, -1, 0, 1, 2, 3}) {
		for _, seq := range slices.Concat(far, []int{0, -5, 1, 2, 4, 7, 9, 13, 19, 20, 21}) {
			refused(seq, holder)
		}
		for seq, has := range holders {
			if holder != has {
				refused(seq, holder)
			}
		}
	}
}

// P17.6: a free entry, or one with its Holder, goes for good, as it was; the others stay.
func TestRemove(t *testing.T) {
	for at, e := range inBusy() {
		q := busy(t)
		wantRemove(t, q, e.Seq, e.Holder, e)
		wantAll(t, q, slices.Delete(inBusy(), at, at+1)...)
		wantNoRemove(t, q, e.Seq, e.Holder)
		wantNoRemove(t, q, e.Seq, 0)
		wantNoBack(t, q, e.Seq, e.Holder, true)
		wantErrno(t, "Put of what has gone", q.Put(counted(held(e, 0), 0)), api.ErrEntry)
	}
}

// P17.6: in whichever order they go, those that stay are taken in theirs.
func TestRemoveLeavesTheOrder(t *testing.T) {
	all := []api.Entry{entry(1, 4), entry(2, 9), entry(3, 4), entry(4, 0), entry(5, 9), entry(6, 4), entry(7, 5), entry(8, 0), entry(9, 9), entry(10, 4)}
	order := []int{2, 5, 9, 7, 1, 3, 6, 10, 4, 8}
	for first := range all {
		for step := range 10 {
			q := filled(t, 0, all...)
			stay := slices.Clone(order)
			for n := range 4 {
				seq := (first+n*step)%10 + 1
				if at := slices.Index(stay, seq); at >= 0 {
					wantRemove(t, q, seq, 0, all[seq-1])
					stay = slices.Delete(stay, at, at+1)
				} else {
					wantNoRemove(t, q, seq, 0)
				}
			}
			for _, seq := range stay {
				wantTake(t, q, 1, nil, all[seq-1])
			}
			wantLen(t, q, 0, len(stay))
		}
	}
}

// P17.7: all that a holder holds is free again, with the Counts that it has; the others' is not.
func TestRelease(t *testing.T) {
	q := busy(t)
	wantRelease(t, q, 1, 5, 6)
	all := inBusy()
	all[0].Holder, all[5].Holder = 0, 0
	wantAll(t, q, all...)
	wantRelease(t, q, 1)
	wantRelease(t, q, 3)
	wantAll(t, q, all...)
	wantRelease(t, q, 2, 12)
	all[2].Holder = 0
	wantAll(t, q, all...)
	for _, e := range all {
		wantTake(t, q, 4, nil, e)
	}
	wantRelease(t, q, 4, 3, 5, 6, 8, 11, 12)
}

// P17.7: none of a holder who holds nothing, or is none.
func TestReleaseOfNone(t *testing.T) {
	for _, holder := range slices.Concat([]int{0, -1, -2, 3, 4, maxWord}, far) {
		wantRefused(t, fmt.Sprintf("Release(%d)", holder), func() *queue.Queue { return busy(t) }, func(q *queue.Queue) { wantRelease(t, q, holder) })
	}
	wantRelease(t, made(t, config(1, 0)), 1)
	q := filled(t, 0, entry(1, 1))
	wantTake(t, q, math.MaxInt, nil, entry(1, 1))
	wantRelease(t, q, math.MaxInt, 1)
	wantAll(t, q, entry(1, 1))
}

// P17.7: the Seqs rise, in whichever order they were taken; Tries doesn't matter.
func TestReleaseRises(t *testing.T) {
	for _, seqs := range orders([]int{1, 2, 3, 4}) {
		for n := range 5 {
			q := filled(t, 1, counted(entry(1, 0), 7), entry(2, 9), entry(3, 4), entry(4, 9))
			for _, seq := range seqs[:n] {
				take(t, q, seq, 6)
			}
			want := slices.Clone(seqs[:n])
			slices.Sort(want)
			wantRelease(t, q, 6, want...)
			wantAll(t, q, entry(2, 9), entry(4, 9), entry(3, 4), counted(entry(1, 0), 7))
			for _, e := range []api.Entry{entry(2, 9), entry(4, 9), entry(3, 4), counted(entry(1, 0), 7)} {
				wantTake(t, q, 1, nil, e)
			}
		}
	}
}

// P17.8: free entries go whose Expiry is 0 or more and not above now.
func TestExpire(t *testing.T) {
	var l []api.Entry
	expiries := []int{100, -1, 0, maxTime, 1, 101, 99, maxTime - 1, 0, -1, 100}
	for i, x := range expiries {
		l = append(l, until(entry(i+1, []int{4, 9, 0}[i%3]), x))
	}
	for _, now := range []int{math.MinInt, -2, -1, 0, 1, 2, 98, 99, 100, 101, 102, maxTime - 1, maxTime, maxTime + 1, math.MaxInt} {
		q := filled(t, 0, l...)
		var leave, stay []api.Entry
		for e := range q.All() {
			if e.Expiry != -1 && e.Expiry <= now {
				leave = append(leave, e)
			} else {
				stay = append(stay, e)
			}
		}
		wantExpire(t, q, now, leave...)
		wantAll(t, q, stay...)
		wantExpire(t, q, now)
		for _, e := range stay {
			wantTake(t, q, 1, nil, e)
		}
	}
}

// P17.8: with nothing to go nothing changes.
func TestExpireOfNone(t *testing.T) {
	for _, now := range []int{math.MinInt, -1, 0, 49} {
		wantRefused(t, fmt.Sprintf("Expire(%d)", now), func() *queue.Queue { return busy(t) }, func(q *queue.Queue) { wantExpire(t, q, now) })
	}
	wantExpire(t, made(t, config(1, 0)), math.MaxInt)
}

// P17.8: what is held stays, whatever its Expiry, and goes when it is free.
func TestExpireLeavesHeldOnes(t *testing.T) {
	q := filled(t, 5, until(entry(1, 4), 0), until(entry(2, 4), 10), until(entry(3, 9), 20), until(entry(4, 4), 10))
	take(t, q, 1, 1)
	take(t, q, 2, 2)
	take(t, q, 3, 1)
	wantExpire(t, q, 15, until(entry(4, 4), 10))
	wantExpire(t, q, math.MaxInt)
	wantLen(t, q, 0, 3)
	wantRelease(t, q, 1, 1, 3)
	wantBack(t, q, 2, 2, true, counted(until(entry(2, 4), 10), 1), false)
	wantExpire(t, q, 15, until(entry(1, 4), 0), counted(until(entry(2, 4), 10), 1))
	wantExpire(t, q, 20, until(entry(3, 9), 20))
	wantAll(t, q)
}

// P17.8: the answer is in the queue's order, not by age, and not by time.
func TestExpireInOrder(t *testing.T) {
	for _, priorities := range orders([]int{0, 4, 4, 9, 9}) {
		q := made(t, config(5, 0))
		for i, p := range priorities {
			put(t, q, until(entry(i+1, p), 50-i))
		}
		all := slices.Collect(q.All())
		wantExpire(t, q, 50, all...)
		wantAll(t, q)
		e, is := q.Take(1, nil)
		wantNone(t, "Take", e, is)
		e, is = q.Peek(0, nil)
		wantNone(t, "Peek", e, is)
	}
}
