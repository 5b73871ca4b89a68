package queue_test

import (
	"testing"

	"longshore/api"
	"longshore/queue"
)

// The chapter's errors, by their numbers.
func TestErrorNumbers(t *testing.T) {
	for _, c := range []struct{ got, want api.Errno }{{api.OK, 0}, {api.ErrLong, 2}, {api.ErrQueueFull, 170}, {api.ErrEntry, 171}} {
		if c.got != c.want {
			t.Errorf("%d, want %d", c.got, c.want)
		}
	}
}

// The chapter's table of examples, row by row, on one queue.
func TestExamples(t *testing.T) {
	for _, c := range []api.QueueConfig{{Name: "Q", Most: 3, Tries: 2}, {Name: "q", Most: 0, Tries: 2}, {Name: "q", Most: 4097, Tries: 2}, {Name: "q", Most: 3, Dead: "q", Tries: 2}} {
		if queue.New(c) != nil {
			t.Errorf("New(%s): not nil", told(c))
		}
	}
	q := made(t, api.QueueConfig{Name: "q", Most: 3, Tries: 2})
	for _, c := range []struct {
		e    api.Entry
		want api.Errno
	}{{entry(5, 4), 0}, {entry(5, 4), 171}, {entry(6, 10), 171}, {entry(7, 9), 0}, {entry(8, 4), 0}, {entry(9, 0), 170}} {
		wantErrno(t, "Put "+brief(c.e), q.Put(c.e), c.want)
	}
	wantLen(t, q, 3, 0)
	all := func(api.Entry) bool { return true }
	wantTake(t, q, 1, all, entry(7, 9))
	e, is := q.Take(0, all)
	wantNone(t, "Take(0, all)", e, is)
	wantPeek(t, q, 0, all, entry(5, 4))
	wantPeek(t, q, 5, all, entry(8, 4))
	e, is = q.Peek(8, all)
	wantNone(t, "Peek(8, all)", e, is)
	var asked []int
	wantTake(t, q, 2, func(e api.Entry) bool { asked = append(asked, e.Seq); return e.Seq%2 == 0 }, entry(8, 4))
	if told(asked) != "[5 8]" {
		t.Errorf("asked of %v", asked)
	}
	wantNoBack(t, q, 7, 2, true)
	wantBack(t, q, 7, 1, true, counted(entry(7, 9), 1), false)
	wantNoBack(t, q, 7, 1, true)
	wantTake(t, q, 1, all, counted(entry(7, 9), 1))
	wantBack(t, q, 7, 1, true, counted(entry(7, 9), 2), true)
	wantRelease(t, q, 2, 8)
	wantRelease(t, q, 2)
	wantNoRemove(t, q, 5, 1)
	wantRemove(t, q, 5, 0, entry(5, 4))
	wantLen(t, q, 1, 0)
	wantErrno(t, "Put", q.Put(until(entry(9, 0), 100)), api.OK)
	wantExpire(t, q, 99)
	wantExpire(t, q, 100, until(entry(9, 0), 100))
	wantErrno(t, "Put 7/1", q.Put(entry(7, 1)), api.ErrEntry)
	wantAll(t, q, entry(8, 4))
}

func wantNoBack(t *testing.T, q *queue.Queue, seq, holder int, failed bool) {
	t.Helper()
	if got, dead, e := q.Back(seq, holder, failed); told(got) != told(api.Entry{}) || dead || e != api.ErrEntry {
		t.Fatalf("Back(%d, %d, %v): %s, %v, %d, want ErrEntry", seq, holder, failed, told(got), dead, e)
	}
}

func wantNoRemove(t *testing.T, q *queue.Queue, seq, holder int) {
	t.Helper()
	if got, e := q.Remove(seq, holder); told(got) != told(api.Entry{}) || e != api.ErrEntry {
		t.Fatalf("Remove(%d, %d): %s, %d, want ErrEntry", seq, holder, told(got), e)
	}
}
