package txn_test

import (
	"testing"

	"longshore/api"
	"longshore/txn"
)

// The chapter's list of errors.
func TestNumbers(t *testing.T) {
	for i, e := range []struct{ got, want api.Errno }{
		{api.ErrNoTxn, 220}, {api.ErrTxns, 221}, {api.ErrOps, 222}, {api.ErrArg, 1}, {api.ErrLong, 2}, {api.ErrEntry, 171}, {api.ErrNoQueue, 210},
	} {
		if e.got != e.want {
			t.Errorf("error %d: %d, want %d", i, e.got, e.want)
		}
	}
	if api.MaxTxns != maxTxns || api.MaxOps != maxOps {
		t.Errorf("%d, %d", api.MaxTxns, api.MaxOps)
	}
}

// The chapter's table of examples, row by row.
func TestExamples(t *testing.T) {
	b := example(t)
	x := b.x
	e := plain(0, 4)
	bad := plain(0, 10)
	one, two := held(durable(1, 4), 7), held(durable(2, 4), 7)

	if txn.New(nil) != nil {
		t.Error("New(nil)")
	}
	b.declared(t, 5, "t1")
	b.declared(t, 6, "t2")
	b.wantOpen(t, "t1", "t2")

	b.stays(t, "of another owner", func() api.Errno { return x.Put("t1", 6, "q", e) }, api.ErrNoTxn)
	b.stays(t, "no queue", func() api.Errno { return x.Put("t1", 5, "x", e) }, api.ErrNoQueue)
	b.stays(t, "Priority 10", func() api.Errno { return x.Put("t1", 5, "q", bad) }, api.ErrEntry)

	b.stays(t, "Put", func() api.Errno { return x.Put("t1", 5, "q", e) }, api.OK)
	b.stays(t, "Done", func() api.Errno { return x.Done("t1", 5, "q", 1, 7, accepted) }, api.OK)

	b.stays(t, "it is t1's", func() api.Errno { return x.Done("t2", 6, "q", 1, 7, accepted) }, api.ErrEntry)
	b.stays(t, "held by another one", func() api.Errno { return x.Done("t2", 6, "q", 2, 8, accepted) }, api.ErrEntry)
	b.stays(t, "no outcome", func() api.Errno { return x.Done("t2", 6, "q", 2, 7, received) }, api.ErrArg)

	b.stays(t, "Done", func() api.Errno { return x.Done("t2", 6, "q", 2, 7, rejected) }, api.OK)
	wantErrno(t, "Discharge with fail", x.Discharge("t2", 6, true), api.OK)
	b.wantEntries(t, "q", one, two)

	wantErrno(t, "Discharge", x.Discharge("t1", 5, false), api.OK)
	b.wantEntries(t, "q", two, turned(e, func(e *api.Entry) { e.Seq = 3 }))
	b.wantNext(t, 4)
	b.stays(t, "again", func() api.Errno { return x.Discharge("t1", 5, false) }, api.ErrNoTxn)

	b.declared(t, 5, "t3")
	b.done(t, "t3", 5, "q", 2, 7, rejected)
	wantErrno(t, "Discharge", x.Discharge("t3", 5, false), api.OK)
	b.wantEntries(t, "q", turned(e, func(e *api.Entry) { e.Seq = 3 }))
	b.wantEntries(t, "d", as(durable(2, 4), 4, 0))

	b.declared(t, 5, "t4")
	b.puts(t, "t4", 5, "q", e, e, e)
	before := told(b.s) + seen(b.d)
	wantErrno(t, "Discharge", x.Discharge("t4", 5, false), api.ErrQueueFull)
	if after := told(b.s) + seen(b.d); after != before {
		t.Errorf("%s\nbefore: %s", after, before)
	}
	b.wantNext(t, 5)

	b.declared(t, 5, "t5")
	if n := x.Drop(5); n != 1 {
		t.Errorf("Drop: %d", n)
	}
	b.wantOpen(t)
}
