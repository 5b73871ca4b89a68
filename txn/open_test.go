package txn_test

import (
	"fmt"
	"math/rand"
	"slices"
	"testing"

	"longshore/api"
	"longshore/txn"
)

// P22.1: of no store there are no transactions; of one there are none that are open.
func TestNew(t *testing.T) {
	if txn.New(nil) != nil {
		t.Error("New(nil)")
	}
	b := made(t, maxDisk)
	b.wantOpen(t)
	if n := b.x.Drop(0); n != 0 {
		t.Errorf("Drop: %d", n)
	}
	b.stays(t, "no transaction", func() api.Errno { return b.x.Discharge("t1", 0, false) }, api.ErrNoTxn)
	b.stays(t, "no name", func() api.Errno { return b.x.Discharge("", 0, true) }, api.ErrNoTxn)
	other := txn.New(b.s)
	b.declared(t, 1, "t1")
	if len(other.Open()) > 0 {
		t.Errorf("of another one: %q", other.Open())
	}
	if id, e := other.Declare(2); id != "t1" || e != api.OK {
		t.Errorf("Declare: %q, %d", id, e)
	}
}

// P22.2: the names go on with each that is declared, whoever declares it, and whatever has become of the others.
func TestNames(t *testing.T) {
	b := made(t, maxDisk, declare(lasting("q", 3)))
	for i := range 40 {
		owner := []int{0, 5, -5, 1 << 62, -1 << 63}[i%5]
		id := fmt.Sprint("t", i+1)
		b.declared(t, owner, id)
		b.wantOpen(t, id)
		switch i % 4 {
		case 0:
			wantErrno(t, "Discharge", b.x.Discharge(id, owner, false), api.OK)
		case 1:
			wantErrno(t, "Discharge", b.x.Discharge(id, owner, true), api.OK)
		case 2:
			if n := b.x.Drop(owner); n != 1 {
				t.Errorf("Drop: %d", n)
			}
		case 3:
			b.puts(t, id, owner, "q", plain(0, 4), plain(0, 4), plain(0, 4), plain(0, 4))
			wantErrno(t, "Discharge", b.x.Discharge(id, owner, false), api.ErrQueueFull)
		}
		b.wantOpen(t)
	}
}

// P22.2: 16 may be open; one more may be declared behind each that is not open any more. What was refused has used up no name.
func TestMostOpen(t *testing.T) {
	b := made(t, maxDisk)
	for i := range maxTxns {
		b.declared(t, i%3, fmt.Sprint("t", i+1))
	}
	full := func() {
		t.Helper()
		for owner := range 4 {
			b.stays(t, "one more", func() api.Errno {
				id, e := b.x.Declare(owner)
				if id != "" {
					t.Errorf("a name beside an error: %q", id)
				}
				return e
			}, api.ErrTxns)
		}
	}
	full()
	wantErrno(t, "Discharge", b.x.Discharge("t7", 0, false), api.OK)
	b.declared(t, 9, "t17")
	full()
	wantErrno(t, "Discharge", b.x.Discharge("t2", 1, true), api.OK)
	b.declared(t, 9, "t18")
	full()
	b.stays(t, "of another owner", func() api.Errno { return b.x.Discharge("t3", 1, false) }, api.ErrNoTxn)
	b.stays(t, "unknown", func() api.Errno { return b.x.Discharge("t7", 0, false) }, api.ErrNoTxn)
	full()
	if n := b.x.Drop(9); n != 2 {
		t.Errorf("Drop: %d", n)
	}
	b.declared(t, 1, "t19")
	b.declared(t, 1, "t20")
	full()
	for _, owner := range []int{0, 1, 2} {
		b.x.Drop(owner)
	}
	for i := range maxTxns {
		b.declared(t, 1, fmt.Sprint("t", i+21))
	}
	full()
}

// P22.6: all of an owner's are open no more, and no other one's; nothing of them is done, and what they were to be done with may be done with again.
func TestDrop(t *testing.T) {
	b := example(t)
	for _, owner := range []int{5, 6, 5, -1, 0, 5} {
		b.open(t, owner)
	}
	b.puts(t, "t1", 5, "q", plain(0, 4))
	b.done(t, "t3", 5, "q", 1, 7, accepted)
	b.done(t, "t2", 6, "q", 2, 7, released)
	before := told(b.s) + seen(b.d)
	for _, c := range []struct {
		owner, n int
		open     []string
	}{
		{7, 0, []string{"t1", "t2", "t3", "t4", "t5", "t6"}},
		{1, 0, []string{"t1", "t2", "t3", "t4", "t5", "t6"}},
		{5, 3, []string{"t2", "t4", "t5"}},
		{5, 0, []string{"t2", "t4", "t5"}},
		{0, 1, []string{"t2", "t4"}},
		{-1, 1, []string{"t2"}},
	} {
		if n := b.x.Drop(c.owner); n != c.n {
			t.Errorf("Drop(%d): %d, want %d", c.owner, n, c.n)
		}
		b.wantOpen(t, c.open...)
	}
	if after := told(b.s) + seen(b.d); after != before {
		t.Errorf("%s\nbefore: %s", after, before)
	}
	for _, id := range []string{"t1", "t3", "t6"} {
		b.stays(t, "dropped", func() api.Errno { return b.x.Put(id, 5, "q", plain(0, 4)) }, api.ErrNoTxn)
		b.stays(t, "dropped", func() api.Errno { return b.x.Done(id, 5, "q", 1, 7, accepted) }, api.ErrNoTxn)
		b.stays(t, "dropped", func() api.Errno { return b.x.Discharge(id, 5, false) }, api.ErrNoTxn)
	}
	b.done(t, "t2", 6, "q", 1, 7, accepted)
	b.stays(t, "not dropped", func() api.Errno { return b.x.Done("t2", 6, "q", 2, 7, accepted) }, api.ErrEntry)
	if n := b.x.Drop(6); n != 1 {
		t.Errorf("Drop: %d", n)
	}
	b.declared(t, 5, "t7")
	b.done(t, "t7", 5, "q", 2, 7, accepted)
}

// P22.6: the names are told sorted by their bytes.
func TestOpenIsSorted(t *testing.T) {
	b := made(t, maxDisk)
	for range 11 {
		b.open(t, 1)
	}
	b.wantOpen(t, "t1", "t10", "t11", "t2", "t3", "t4", "t5", "t6", "t7", "t8", "t9")
	r := rand.New(rand.NewSource(221))
	for range 1500 {
		if l := b.x.Open(); r.Intn(2) == 0 && len(l) > 0 {
			wantErrno(t, "Discharge", b.x.Discharge(l[r.Intn(len(l))], 1, r.Intn(2) == 0), api.OK)
		} else {
			b.x.Declare(1)
		}
		if l := b.x.Open(); !slices.IsSorted(l) {
			t.Fatalf("%q", l)
		}
	}
	if l := b.x.Open(); len(l) == 0 || l[len(l)-1] < "t500" {
		t.Errorf("%q", l)
	}
}

// What changes no store works while its disk is down, too: P22.2 to P22.4, and P22.6, name no ErrDown.
func TestDownDisk(t *testing.T) {
	b := example(t)
	id, other := b.open(t, 1), b.open(t, 2)
	b.d.Crash(0)
	b.stays(t, "Put", func() api.Errno { return b.x.Put(id, 1, "q", plain(0, 4)) }, api.OK)
	b.stays(t, "no queue", func() api.Errno { return b.x.Put(id, 1, "x", plain(0, 4)) }, api.ErrNoQueue)
	b.stays(t, "Done", func() api.Errno { return b.x.Done(id, 1, "q", 1, 7, accepted) }, api.OK)
	b.stays(t, "twice", func() api.Errno { return b.x.Done(other, 2, "q", 1, 7, accepted) }, api.ErrEntry)
	b.declared(t, 3, "t3")
	b.wantOpen(t, "t1", "t2", "t3")
	if n := b.x.Drop(3); n != 1 {
		t.Errorf("Drop: %d", n)
	}
	b.stays(t, "of another owner", func() api.Errno { return b.x.Discharge(id, 2, false) }, api.ErrNoTxn)
	before := told(b.s)
	wantErrno(t, "with fail", b.x.Discharge(other, 2, true), api.OK)
	wantErrno(t, "Discharge", b.x.Discharge(id, 1, false), api.ErrDown)
	b.wantOpen(t)
	if after := told(b.s); after != before {
		t.Errorf("%s\nbefore: %s", after, before)
	}
}
