package queue_test

import (
	"bytes"
	"fmt"
	"math"
	"slices"
	"testing"

	"longshore/api"
	"longshore/queue"
)

// good and bad are what each number of an entry may be, and may not; Seqs here are held against a queue that never had any.
var numbers = []struct {
	name      string
	at        func(e *api.Entry) *int
	good, bad []int
}{
	{"Seq", func(e *api.Entry) *int { return &e.Seq }, []int{1, 2, 1 << 32, 1 << 62, math.MaxInt - 1, math.MaxInt}, []int{0, -1, -2, math.MinInt, math.MinInt + 1}},
	{"Priority", func(e *api.Entry) *int { return &e.Priority }, []int{0, 1, 2, 3, 4, 5, 6, 7, 8, 9}, slices.Concat(far, []int{-1, -2, 10, 11, 256, 260, 1<<32 + 4})},
	{"Expiry", func(e *api.Entry) *int { return &e.Expiry }, []int{-1, 0, 1, 1 << 32, maxTime - 1, maxTime}, slices.Concat(far, []int{-2, -3, maxTime + 1, maxTime + 2})},
	{"Count", func(e *api.Entry) *int { return &e.Count }, []int{0, 1, 2, maxWord - 1, maxWord}, slices.Concat(far, []int{-1, -2, maxWord + 1, maxWord + 2})},
	{"Holder", func(e *api.Entry) *int { return &e.Holder }, []int{0}, slices.Concat(far, []int{1, 2, -1, -2, maxWord})},
}

// P17.2: an entry with what may be is a free one then, as it came.
func TestPut(t *testing.T) {
	for _, n := range numbers {
		for _, is := range n.good {
			for _, durable := range []bool{false, true} {
				e := turned(entry(7, 4), func(e *api.Entry) { *n.at(e), e.Durable = is, durable })
				q := filled(t, 1, e)
				wantAll(t, q, e)
				wantPeek(t, q, 0, nil, e)
				wantTake(t, q, 3, nil, e)
				wantAll(t, q, held(e, 3))
			}
		}
	}
}

// P17.2: one with what may not be is refused, in an empty queue, one in the midst of things and a full one.
func TestPutOfWhatMayNotBe(t *testing.T) {
	for _, n := range numbers {
		for _, is := range n.bad {
			e := turned(entry(70, 4), func(e *api.Entry) { *n.at(e) = is })
			for _, again := range []func() *queue.Queue{func() *queue.Queue { return made(t, config(3, 0)) }, func() *queue.Queue { return busy(t) }, func() *queue.Queue { return full(t) }} {
				wantRefused(t, fmt.Sprintf("Put with %s %d", n.name, is), again, func(q *queue.Queue) { wantErrno(t, told(e), q.Put(e), api.ErrEntry) })
			}
		}
	}
}

// full is a queue with no room: two are free, one is held, one was there.
func full(t *testing.T) *queue.Queue {
	t.Helper()
	q := made(t, config(3, 2))
	put(t, q, entry(1, 4), entry(2, 5), entry(3, 6))
	wantRemove(t, q, 1, 0, entry(1, 4))
	put(t, q, entry(10, 9))
	take(t, q, 2, 4)
	return q
}

// P17.2: a Seq is above all that were ever Put: those that are free, held, that have gone by Remove, by Expire, or dead.
func TestSeqsRise(t *testing.T) {
	left := map[string]func(q *queue.Queue){
		"free": func(q *queue.Queue) {},
		"held": func(q *queue.Queue) { take(t, q, 10, 1) },
		"back": func(q *queue.Queue) {
			take(t, q, 10, 1)
			wantBack(t, q, 10, 1, false, until(entry(10, 4), 50), false)
		},
		"removed": func(q *queue.Queue) { wantRemove(t, q, 10, 0, until(entry(10, 4), 50)) },
		"expired": func(q *queue.Queue) { wantExpire(t, q, 50, until(entry(10, 4), 50)) },
		"dead": func(q *queue.Queue) {
			take(t, q, 10, 1)
			wantBack(t, q, 10, 1, true, counted(until(entry(10, 4), 50), 1), true)
		},
		"done": func(q *queue.Queue) {
			take(t, q, 10, 1)
			wantRemove(t, q, 10, 1, held(until(entry(10, 4), 50), 1))
		},
		"all gone": func(q *queue.Queue) {
			for _, e := range slices.Collect(q.All()) {
				wantRemove(t, q, e.Seq, 0, e)
			}
		},
	}
	for name, leave := range left {
		again := func() *queue.Queue {
			q := filled(t, 1, entry(3, 9), entry(7, 0), until(entry(10, 4), 50))
			leave(q)
			return q
		}
		for _, seq := range []int{1, 2, 3, 4, 6, 7, 8, 9, 10} {
			wantRefused(t, name, again, func(q *queue.Queue) { wantErrno(t, name, q.Put(entry(seq, 9)), api.ErrEntry) })
		}
		for _, seq := range []int{11, 12, 1000, math.MaxInt} {
			q := again()
			put(t, q, entry(seq, 9))
			wantErrno(t, name, q.Put(entry(seq, 9)), api.ErrEntry)
			wantErrno(t, name, q.Put(entry(seq-1, 9)), api.ErrEntry)
		}
	}
}

// P17.2: what was refused was not Put: its Seq may come again.
func TestRefusedSeqsMayComeAgain(t *testing.T) {
	q := full(t)
	for _, e := range []api.Entry{entry(50, 10), entry(60, 4), turned(entry(70, 4), func(e *api.Entry) { e.Data = make([]byte, maxMessage+1) })} {
		if q.Put(e) == api.OK {
			t.Errorf("Put %s: OK", brief(e))
		}
	}
	wantRemove(t, q, 3, 0, entry(3, 6))
	put(t, q, entry(11, 4))
}

// P17.2: Data of up to MaxMessage bytes.
func TestDataAtItsBound(t *testing.T) {
	for _, n := range []int{0, 1, 2, maxMessage - 1, maxMessage} {
		e := api.Entry{Seq: 1, Expiry: -1, Data: bytes.Repeat([]byte{0, 255, 7}, maxMessage)[:n]}
		q := filled(t, 0, e)
		got, is := q.Take(1, nil)
		if !is || !bytes.Equal(got.Data, e.Data) {
			t.Errorf("of %d bytes: %v, %d", n, is, len(got.Data))
		}
	}
	for _, n := range []int{maxMessage + 1, maxMessage + 2, 2 * maxMessage} {
		wantRefused(t, "Put of too much", func() *queue.Queue { return busy(t) }, func(q *queue.Queue) {
			wantErrno(t, "Put of too much", q.Put(api.Entry{Seq: 30, Expiry: -1, Data: make([]byte, n)}), api.ErrLong)
		})
	}
}

// P17.2: a queue takes Most entries, free and held ones counted.
func TestFull(t *testing.T) {
	for _, most := range []int{1, 2, 5} {
		for holds := range most + 1 {
			again := func() *queue.Queue {
				q := made(t, config(most, 1))
				for i := range most {
					put(t, q, until(entry(i+1, i%3), 5))
				}
				for range holds {
					q.Take(7, nil)
				}
				return q
			}
			wantLen(t, again(), most-holds, holds)
			wantRefused(t, "Put", again, func(q *queue.Queue) { wantErrno(t, "Put", q.Put(entry(50, 9)), api.ErrQueueFull) })
			wantRoom(t, again, holds, most)
		}
	}
}

// wantRoom wants that each way to leave makes room for as many as leave, and that going to and fro makes none.
func wantRoom(t *testing.T, again func() *queue.Queue, holds, most int) {
	t.Helper()
	for name, leave := range map[string]func(q *queue.Queue) int{
		"Release": func(q *queue.Queue) int { q.Release(7); return 0 },
		"Take":    func(q *queue.Queue) int { q.Take(8, nil); return 0 },
		"Back":    func(q *queue.Queue) int { return backed(q, false, 0) },
		"dead":    func(q *queue.Queue) int { return backed(q, true, holds) },
		"Expire":  func(q *queue.Queue) int { q.Expire(5); return most - holds },
		"Remove": func(q *queue.Queue) int {
			for e := range q.All() {
				q.Remove(e.Seq, e.Holder)
			}
			return most
		},
	} {
		q := again()
		n := leave(q)
		for i := range n {
			wantErrno(t, name, q.Put(entry(60+i, 4)), api.OK)
		}
		wantErrno(t, name, q.Put(entry(90, 4)), api.ErrQueueFull)
	}
}

// backed gives all back that 7 has, and answers how many it was told leave.
func backed(q *queue.Queue, failed bool, leave int) int {
	for e := range q.All() {
		q.Back(e.Seq, 7, failed)
	}
	return leave
}

// P17.2: what may not be is told ahead of too many bytes, those ahead of a full queue.
func TestOrderOfErrors(t *testing.T) {
	much := make([]byte, maxMessage+1)
	for _, n := range numbers {
		for _, is := range n.bad {
			e := turned(entry(70, 4), func(e *api.Entry) { *n.at(e), e.Data = is, much })
			wantErrno(t, n.name, made(t, config(3, 0)).Put(e), api.ErrEntry)
			wantErrno(t, n.name, full(t).Put(e), api.ErrEntry)
		}
	}
	q := full(t)
	for _, seq := range []int{1, 2, 3, 9, 10} {
		wantErrno(t, "Put", q.Put(entry(seq, 4)), api.ErrEntry)
		wantErrno(t, "Put", q.Put(turned(entry(seq, 4), func(e *api.Entry) { e.Data = much })), api.ErrEntry)
	}
	wantErrno(t, "Put", q.Put(turned(entry(11, 4), func(e *api.Entry) { e.Data = much })), api.ErrLong)
	wantErrno(t, "Put", q.Put(entry(11, 4)), api.ErrQueueFull)
}
