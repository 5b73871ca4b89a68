package queue_test

import (
	"fmt"
	"math"
	"slices"
	"testing"

	"longshore/api"
	"longshore/queue"
)

// asks is a fits that notes what it is asked of, and says true of some.
type asks struct {
	of   []api.Entry
	seqs []int
}

func (a *asks) fits(says func(api.Entry) bool) func(api.Entry) bool {
	return func(e api.Entry) bool {
		is := says(e)
		a.of, a.seqs = append(a.of, e), append(a.seqs, e.Seq)
		return is
	}
}

func (a *asks) want(t *testing.T, what string, want ...int) {
	t.Helper()
	if !slices.Equal(a.seqs, want) {
		t.Fatalf("%s: asked of %v, want %v", what, a.seqs, want)
	}
}

func hasSeq(seqs ...int) func(api.Entry) bool {
	return func(e api.Entry) bool { return slices.Contains(seqs, e.Seq) }
}

// orders are all orders of some numbers.
func orders(l []int) [][]int {
	if len(l) == 0 {
		return [][]int{nil}
	}
	var all [][]int
	for i, n := range l {
		for _, rest := range orders(slices.Concat(l[:i], l[i+1:])) {
			all = append(all, append([]int{n}, rest...))
		}
	}
	return all
}

// P17.3: the higher Priority first, of one the lower Seq, whatever the order in which they were Put.
func TestTakeInOrder(t *testing.T) {
	for _, priorities := range slices.Concat(orders([]int{0, 4, 4, 9, 9, 9}), orders([]int{1, 2, 3, 4, 5, 6})) {
		q := made(t, config(6, 0))
		var l []api.Entry
		for i, p := range priorities {
			l = append(l, entry(i+1, p))
			put(t, q, l[i])
		}
		for p := 9; p >= 0; p-- {
			for _, e := range l {
				if e.Priority == p {
					wantTake(t, q, 2, nil, e)
				}
			}
		}
		e, is := q.Take(2, nil)
		wantNone(t, "Take", e, is)
		wantLen(t, q, 0, 6)
	}
}

// P17.3: what is held is not taken again, by nobody; the next one is.
func TestTakeLeavesHeldOnes(t *testing.T) {
	q := filled(t, 0, entry(1, 4), entry(2, 9), entry(3, 4), entry(4, 9), entry(5, 0))
	take(t, q, 2, 1)
	take(t, q, 3, 1)
	wantTake(t, q, 1, nil, entry(4, 9))
	wantTake(t, q, 2, nil, entry(1, 4))
	wantTake(t, q, math.MaxInt, nil, entry(5, 0))
	e, is := q.Take(1, nil)
	wantNone(t, "Take", e, is)
	wantAll(t, q, held(entry(2, 9), 1), held(entry(4, 9), 1), held(entry(1, 4), 2), held(entry(3, 4), 1), held(entry(5, 0), math.MaxInt))
}

// P17.3: fits is asked in the queue's order, of each free entry once, up to the first of which it says true.
func TestTakeAsksInOrder(t *testing.T) {
	order := []int{11, 3, 8} // of those that are free in busy
	for n, seq := range order {
		for _, says := range []func(api.Entry) bool{hasSeq(seq), hasSeq(order[n:]...), hasSeq(append([]int{5, 6, 12, 20}, order[n:]...)...)} {
			q := busy(t)
			var a asks
			e, is := q.Take(4, a.fits(says))
			a.want(t, "Take", order[:n+1]...)
			all := inBusy()
			at := slices.IndexFunc(all, hasSeq(seq))
			all[at].Holder = 4
			wantGot(t, "Take", e, is, all[at])
			wantAll(t, q, all...)
		}
	}
}

// P17.3: what fits is asked of is the entry as it stands, free.
func TestTakeAsksOfEntries(t *testing.T) {
	var a asks
	q := busy(t)
	e, is := q.Take(4, a.fits(func(api.Entry) bool { return false }))
	wantNone(t, "Take", e, is)
	if want := []api.Entry{inBusy()[1], inBusy()[3], inBusy()[4]}; told(a.of) != told(want) {
		t.Errorf("asked of %s, want %s", told(a.of), told(want))
	}
}

// P17.3: where none fits nothing changes; fits was asked of all.
func TestTakeWhereNoneFits(t *testing.T) {
	for _, says := range []func(api.Entry) bool{hasSeq(), hasSeq(5, 6, 12, 20), func(e api.Entry) bool { return e.Holder != 0 }} {
		wantRefused(t, "Take", func() *queue.Queue { return busy(t) }, func(q *queue.Queue) {
			var a asks
			e, is := q.Take(4, a.fits(says))
			wantNone(t, "Take", e, is)
			a.want(t, "Take", 11, 3, 8)
		})
	}
	var a asks
	e, is := made(t, config(3, 0)).Take(1, a.fits(hasSeq()))
	wantNone(t, "Take of an empty queue", e, is)
	a.want(t, "Take of an empty queue")
}

// P17.3: a holder is 1 or more; else fits is asked of none.
func TestTakeWithoutHolder(t *testing.T) {
	for _, holder := range []int{0, -1, -2, -1 << 32, math.MinInt} {
		wantRefused(t, fmt.Sprint("Take by ", holder), func() *queue.Queue { return busy(t) }, func(q *queue.Queue) {
			var a asks
			e, is := q.Take(holder, a.fits(func(api.Entry) bool { return true }))
			wantNone(t, "Take", e, is)
			a.want(t, "Take")
			e, is = q.Take(holder, nil)
			wantNone(t, "Take", e, is)
		})
	}
	for _, holder := range []int{1, 2, 3, maxWord, 1 << 62, math.MaxInt} {
		q := busy(t)
		wantTake(t, q, holder, nil, inBusy()[1])
	}
}

// P17.3, P17.4: what fits is handed it may keep and change; the queue, what it is asked of later and the answer don't.
func TestFitsMayKeepAndChange(t *testing.T) {
	for range 2 {
		q := filled(t, 0, entry(1, 1), entry(2, 2), entry(3, 3), entry(4, 4))
		var kept []api.Entry
		change := func(e api.Entry) bool {
			if string(e.Data) != fmt.Sprint("entry ", e.Seq) {
				t.Errorf("asked of %q, of %d", e.Data, e.Seq)
			}
			clear(e.Data[:cap(e.Data)])
			kept = append(kept, e)
			is := e.Seq == 2
			e.Seq, e.Priority, e.Holder, e.Count, e.Expiry, e.Durable = 99, 99, 99, 99, 99, true
			return is
		}
		wantPeek(t, q, 0, change, entry(2, 2))
		wantAll(t, q, entry(4, 4), entry(3, 3), entry(2, 2), entry(1, 1))
		wantTake(t, q, 5, change, entry(2, 2))
		wantAll(t, q, entry(4, 4), entry(3, 3), held(entry(2, 2), 5), entry(1, 1))
		if brief(kept...) != "1/1, 2/2, 4/4, 3/3, 2/2" {
			t.Errorf("asked of %s", brief(kept...))
		}
		for _, e := range kept {
			clear(e.Data[:cap(e.Data)])
		}
		wantAll(t, q, entry(4, 4), entry(3, 3), held(entry(2, 2), 5), entry(1, 1))
	}
}

// P17.3: fits may be true of one that was passed over before.
func TestTakeAgainWhatWasPassedOver(t *testing.T) {
	q := made(t, config(maxQueue, 0))
	for i := range 300 {
		put(t, q, entry(i+1, i%10))
	}
	for i := 299; i >= 0; i -= 7 {
		wantTake(t, q, 1, hasSeq(i+1), entry(i+1, i%10))
	}
	last := math.MinInt
	for range 257 {
		e, is := q.Take(1, nil)
		place := 1000*(9-e.Priority) + e.Seq
		if !is || e.Seq%7 == 6 || place <= last {
			t.Fatalf("Take: %s, %v", told(e), is)
		}
		last = place
	}
	wantLen(t, q, 0, 300)
}

// P17.4: by rising Seq, not in the queue's order; held ones are left out.
func TestPeek(t *testing.T) {
	q := busy(t)
	three, eight, eleven := inBusy()[3], inBusy()[4], inBusy()[1]
	for _, c := range []struct {
		from, to int
		want     api.Entry
	}{{-5, 2, three}, {3, 7, eight}, {8, 10, eleven}} {
		for behind := c.from; behind <= c.to; behind++ {
			wantPeek(t, q, behind, nil, c.want)
		}
	}
	wantPeek(t, q, math.MinInt, nil, three)
	for _, behind := range []int{11, 12, 13, 19, 20, 21, 1 << 62, math.MaxInt - 1, math.MaxInt} {
		e, is := q.Peek(behind, nil)
		wantNone(t, fmt.Sprintf("Peek(%d)", behind), e, is)
	}
	q = filled(t, 0, entry(math.MaxInt-1, 0), entry(math.MaxInt, 0))
	wantPeek(t, q, math.MaxInt-2, nil, entry(math.MaxInt-1, 0))
	wantPeek(t, q, math.MaxInt-1, nil, entry(math.MaxInt, 0))
	e, is := q.Peek(math.MaxInt, nil)
	wantNone(t, "Peek behind the last", e, is)
}

// P17.4: fits is asked of those behind, free, by rising Seq, of each once, up to the first of which it says true; nothing changes.
func TestPeekAsks(t *testing.T) {
	for _, c := range []struct {
		behind int
		says   func(api.Entry) bool
		want   int // which Seq; 0: none
		asked  []int
	}{
		{0, hasSeq(3, 8, 11), 3, []int{3}},
		{0, hasSeq(8, 11), 8, []int{3, 8}},
		{0, hasSeq(5, 6, 12, 20, 11), 11, []int{3, 8, 11}},
		{0, hasSeq(5, 6, 12, 20), 0, []int{3, 8, 11}},
		{2, hasSeq(3), 3, []int{3}},
		{3, hasSeq(3), 0, []int{8, 11}},
		{7, hasSeq(3, 8), 8, []int{8}},
		{8, hasSeq(3, 8, 11), 11, []int{11}},
		{11, hasSeq(3, 8, 11), 0, nil},
		{math.MaxInt, hasSeq(3, 8, 11), 0, nil},
		{math.MinInt, hasSeq(), 0, []int{3, 8, 11}},
	} {
		wantRefused(t, "Peek", func() *queue.Queue { return busy(t) }, func(q *queue.Queue) {
			var a asks
			e, is := q.Peek(c.behind, a.fits(c.says))
			a.want(t, fmt.Sprintf("Peek(%d)", c.behind), c.asked...)
			if c.want == 0 {
				wantNone(t, fmt.Sprintf("Peek(%d)", c.behind), e, is)
				return
			}
			wantGot(t, fmt.Sprintf("Peek(%d)", c.behind), e, is, inBusy()[slices.IndexFunc(inBusy(), hasSeq(c.want))])
		})
	}
	var a asks
	q := busy(t)
	q.Peek(0, a.fits(hasSeq()))
	if want := []api.Entry{inBusy()[3], inBusy()[4], inBusy()[1]}; told(a.of) != told(want) {
		t.Errorf("asked of %s, want %s", told(a.of), told(want))
	}
}

// P17.4: Peek changes nothing, and tells the same again.
func TestPeekChangesNothing(t *testing.T) {
	for behind := -1; behind < 25; behind++ {
		for _, fits := range []func(api.Entry) bool{nil, hasSeq(3, 8, 11), hasSeq(11), hasSeq()} {
			wantRefused(t, "Peek", func() *queue.Queue { return busy(t) }, func(q *queue.Queue) {
				first, is := q.Peek(behind, fits)
				again, still := q.Peek(behind, fits)
				if told(first) != told(again) || is != still {
					t.Errorf("Peek(%d): %s, then %s", behind, told(first), told(again))
				}
			})
		}
	}
	e, is := made(t, config(3, 0)).Peek(0, nil)
	wantNone(t, "Peek of an empty queue", e, is)
}
