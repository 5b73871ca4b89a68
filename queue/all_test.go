package queue_test

import (
	"fmt"
	"slices"
	"testing"

	"longshore/api"
)

// P17.9: free and held ones, in the queue's order, whatever the order in which they were Put.
func TestAll(t *testing.T) {
	for _, priorities := range orders([]int{0, 4, 4, 9, 9, 5}) {
		q := made(t, config(6, 0))
		var l []api.Entry
		for i, p := range priorities {
			l = append(l, entry(i+1, p))
			put(t, q, l[i])
		}
		for _, seq := range []int{2, 5, 6} {
			take(t, q, seq, seq)
			l[seq-1].Holder = seq
		}
		var want []api.Entry
		for p := 9; p >= 0; p-- {
			for _, e := range l {
				if e.Priority == p {
					want = append(want, e)
				}
			}
		}
		wantAll(t, q, want...)
	}
	wantAll(t, made(t, config(6, 0)))
}

// P17.9: Len, behind each way to come, to be held and to leave.
func TestLen(t *testing.T) {
	q := made(t, config(5, 2))
	wantLen(t, q, 0, 0)
	put(t, q, entry(1, 1), entry(2, 2), until(entry(3, 3), 5))
	wantLen(t, q, 3, 0)
	q.Put(entry(3, 3))
	wantLen(t, q, 3, 0)
	take(t, q, 1, 1)
	wantLen(t, q, 2, 1)
	take(t, q, 2, 1)
	wantLen(t, q, 1, 2)
	q.Back(2, 1, true)
	wantLen(t, q, 2, 1)
	take(t, q, 2, 1)
	q.Back(2, 1, true)
	wantLen(t, q, 1, 1)
	q.Expire(5)
	wantLen(t, q, 0, 1)
	q.Release(1)
	wantLen(t, q, 1, 0)
	take(t, q, 1, 8)
	q.Remove(1, 8)
	wantLen(t, q, 0, 0)
	put(t, q, entry(4, 4))
	q.Remove(4, 0)
	wantLen(t, q, 0, 0)
}

// DOC.md's R7: a range may be left at each place, and nothing is told behind it.
func TestAllLeftEarly(t *testing.T) {
	q := busy(t)
	for n := range inBusy() {
		var got []api.Entry
		for e := range q.All() {
			got = append(got, e)
			if len(got) == n+1 {
				break
			}
		}
		if told(got) != told(inBusy()[:n+1]) {
			t.Errorf("left behind %d: %s", n+1, told(got))
		}
		calls := 0
		q.All()(func(api.Entry) bool { calls++; return calls <= n })
		if calls != n+1 {
			t.Errorf("asked to end behind %d, it told %d", n+1, calls)
		}
	}
	wantAll(t, q, inBusy()...)
}

// DOC.md's R7: an iterator tells what there is when a range begins, not when it was asked for, and tells it again.
func TestAllTellsWhatThereIs(t *testing.T) {
	q := made(t, config(5, 0))
	all := q.All()
	want := func(want ...api.Entry) {
		t.Helper()
		if got := slices.Collect(all); told(got) != told(want) {
			t.Fatalf("%s, want %s", told(got), told(want))
		}
	}
	want()
	put(t, q, entry(1, 1), entry(2, 2))
	want(entry(2, 2), entry(1, 1))
	want(entry(2, 2), entry(1, 1))
	take(t, q, 1, 7)
	want(entry(2, 2), held(entry(1, 1), 7))
	wantBack(t, q, 1, 7, true, counted(entry(1, 1), 1), false)
	want(entry(2, 2), counted(entry(1, 1), 1))
	wantRemove(t, q, 2, 0, entry(2, 2))
	want(counted(entry(1, 1), 1))
}

// DOC.md's R7: whatever is done while a range runs, it tells what there was when it began; a range within it tells what there is then.
func TestCallsWithinARange(t *testing.T) {
	for at := range inBusy() {
		for name, act := range acts() {
			q, other := busy(t), busy(t)
			all := q.All()
			var got []api.Entry
			for e := range all {
				got = append(got, e)
				if len(got) == at+1 {
					act(q)
					act(other)
					inner := slices.Collect(all)
					if told(inner) != told(slices.Collect(other.All())) {
						t.Fatalf("%s: within: %s", name, told(inner))
					}
				}
			}
			if told(got) != told(inBusy()) {
				t.Fatalf("%s: %s", name, told(got))
			}
			if probed(q) != probed(other) {
				t.Fatalf("%s: another one behind the range", name)
			}
		}
	}
}

// acts change a queue in the midst of things; what they are answered they overwrite.
func acts() map[string]func(q calls) {
	return map[string]func(q calls){
		"Put":  func(q calls) { q.Put(entry(30, 9)); q.Put(entry(31, 0)) },
		"Take": func(q calls) { e, _ := q.Take(5, nil); clear(e.Data) },
		"Back": func(q calls) { e, _, _ := q.Back(5, 1, true); clear(e.Data) },
		"dead": func(q calls) {
			q.Back(12, 2, true)
			q.Take(2, hasSeq(12))
			e, _, _ := q.Back(12, 2, true)
			clear(e.Data)
		},
		"Release": func(q calls) { q.Release(1); q.Release(2) },
		"Expire": func(q calls) {
			for _, e := range q.Expire(1000) {
				clear(e.Data)
			}
		},
		"Remove": func(q calls) {
			for _, e := range inBusy() {
				gone, _ := q.Remove(e.Seq, e.Holder)
				clear(gone.Data)
			}
		},
		"all changed": func(q calls) {
			for e := range q.All() {
				q.Remove(e.Seq, e.Holder)
			}
			for i := range 7 {
				q.Put(api.Entry{Seq: 40 + i, Priority: i, Expiry: -1, Data: []byte("something else")})
			}
		},
		"what is told": func(q calls) {
			for e := range q.All() {
				clear(e.Data)
			}
		},
	}
}

// DOC.md's R7: ranges within one another, of one iterator and of two, each at its own place.
func TestRangesWithinRanges(t *testing.T) {
	q := filled(t, 0, entry(1, 1), entry(2, 2), entry(3, 3))
	all, s := q.All(), ""
	for a := range all {
		for b := range all {
			for c := range q.All() {
				s += fmt.Sprint(a.Seq, b.Seq, c.Seq, ";")
				if c.Seq == 2 {
					break
				}
			}
		}
	}
	if s != "3 3 3;3 3 2;3 2 3;3 2 2;3 1 3;3 1 2;2 3 3;2 3 2;2 2 3;2 2 2;2 1 3;2 1 2;1 3 3;1 3 2;1 2 3;1 2 2;1 1 3;1 1 2;" {
		t.Error(s)
	}
}

// P17.9: telling changes nothing.
func TestTellingChangesNothing(t *testing.T) {
	q := busy(t)
	before := seen(q)
	for range 3 {
		q.Len()
		q.Config()
		for e := range q.All() {
			e.Holder = 50
		}
		if seen(q) != before {
			t.Fatalf("%s, before: %s", seen(q), before)
		}
	}
	if probed(q) != probed(busy(t)) {
		t.Error("something has changed")
	}
}
