package store_test

import (
	"testing"

	"longshore/api"
	"longshore/disk"
	"longshore/store"
)

// The chapter's list of errors, and the kinds of operations.
func TestNumbers(t *testing.T) {
	for i, e := range []struct{ got, want api.Errno }{
		{api.ErrArg, 1}, {api.ErrLong, 2}, {api.ErrDown, 3}, {api.ErrEntry, 171}, {api.ErrQueue, 172}, {api.ErrNoQueue, 210}, {api.ErrThere, 211}, {api.ErrOp, 212}, {api.ErrReplay, 213},
	} {
		if e.got != e.want {
			t.Errorf("error %d: %d, want %d", i, e.got, e.want)
		}
	}
	for i, kind := range []int{api.OpDeclare, api.OpDelete, api.OpBind, api.OpUnbind, api.OpPut, api.OpRemove, api.OpCount, api.OpMove} {
		if kind != i+1 {
			t.Errorf("kind %d: %d", i+1, kind)
		}
	}
}

// The chapter's table of examples, row by row.
func TestExamples(t *testing.T) {
	q := api.QueueConfig{Name: "q", Most: 2, Dead: "d", Tries: 2, Durable: true}
	dead := api.QueueConfig{Name: "d", Most: 1, Durable: true}
	all := func(api.Entry) bool { return true }
	if s, e := store.Open(nil); s != nil || e != api.ErrArg {
		t.Errorf("Open(nil): %v, %d", s != nil, e)
	}
	d := disk.New(100000)
	s := opened(t, d)
	wantNext(t, s, 1)

	wantApply(t, s, declare(q), declare(dead))
	wantRefused(t, s, d, 0, api.ErrThere, declare(q))

	wantRefused(t, s, d, 1, api.ErrEntry, put("q", durable(1, 4)), put("q", durable(3, 4)))
	wantEntries(t, s, "q")

	wantApply(t, s, put("q", durable(1, 4)), put("q", durable(2, 9)))
	wantNext(t, s, 3)

	wantRefused(t, s, d, 0, api.ErrQueueFull, put("q", durable(3, 4)))
	wantRefused(t, s, d, 0, api.ErrNoQueue, put("x", durable(3, 4)))

	if e, is := s.Take("q", 7, all); toldEntry(e) != toldEntry(held(durable(2, 9), 7)) || !is {
		t.Errorf("Take: %s, %t", toldEntry(e), is)
	}
	wantOk(t, s.Back("q", 2, 7, true))
	wantEntries(t, s, "q", counted(durable(2, 9), 1), durable(1, 4))

	if e, is := s.Take("q", 7, all); e.Seq != 2 || e.Count != 1 || !is {
		t.Errorf("Take: %s, %t", toldEntry(e), is)
	}
	wantOk(t, s.Back("q", 2, 7, true))
	wantEntries(t, s, "d", as(durable(2, 9), 3, 2))

	if e, is := s.Take("q", 8, all); e.Seq != 1 || !is {
		t.Errorf("Take: %s, %t", toldEntry(e), is)
	}
	wantErrno(t, "Bury", s.Bury("q", 1, 7), api.ErrEntry)
	wantOk(t, s.Bury("q", 1, 8))
	wantEntries(t, s, "q")
	wantEntries(t, s, "d", as(durable(2, 9), 3, 2))

	d = loaded(t, 100000, d.Files()...)
	s = opened(t, d)
	wantEntries(t, s, "q")
	wantEntries(t, s, "d", as(durable(2, 9), 3, 2))
	wantNext(t, s, 4)

	wantApply(t, s, bind("a.*", "q"))
	wantMatch(t, s, "a.b", "q")
	wantApply(t, s, gone("q"))
	wantMatch(t, s, "a.b")

	wantRefused(t, s, d, 0, api.ErrOp, api.Op{Kind: api.OpCount})

	d.Arm(0, 0)
	if n, e := s.Apply([]api.Op{remove("d", 3)}); n != 0 || e != api.ErrDown {
		t.Errorf("Apply: %d, %d", n, e)
	}
	if n, e := s.Apply(nil); n != 0 || e != api.ErrDown {
		t.Errorf("Apply: %d, %d", n, e)
	}
	wantEntries(t, s, "d", as(durable(2, 9), 3, 2))
}
