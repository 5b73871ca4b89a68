package store_test

import (
	"fmt"
	"slices"
	"testing"

	"longshore/api"
	"longshore/disk"
)

func wantMatch(t *testing.T, s calls, topic string, want ...string) {
	t.Helper()
	if got, e := s.Match(topic); !slices.Equal(got, want) || e != api.OK {
		t.Fatalf("Match(%q): %v, %d, want %v", topic, got, e, want)
	}
}

// P21.7: of an empty store nothing is told.
func TestLookAtNothing(t *testing.T) {
	s, d := made(t)
	wantQueues(t, s)
	wantBindings(t, s)
	wantEntries(t, s, "q")
	wantEntries(t, s, "")
	wantMatch(t, s, "a")
	wantNext(t, s, 1)
	wantNoFiles(t, d)
}

// P21.7: queues by rising names, in bytes, with all of their Configs; messages in the queue's order, held ones too; bindings and Match as route's, also to queues that are not durable.
func TestLook(t *testing.T) {
	names := []string{"-", ".", "0", "9", "_", "a", "a.", "a.b", "aa", "ab", "b", "z"}
	var ops []api.Op
	var want []api.QueueConfig
	for i, name := range names {
		c := api.QueueConfig{Name: name, Most: i + 3, Dead: names[(i+1)%len(names)], Tries: i, Durable: i%2 == 0}
		want = append(want, c)
		ops = append(ops, declare(c))
	}
	slices.Reverse(ops)
	s, _ := made(t, ops...)
	wantQueues(t, s, want...)
	wantApply(t, s, put("b", plain(1, 4)), put("b", durable(2, 9)), put("b", plain(3, 4)), put("b", plain(4, 0)), put("b", durable(5, 9)), put("a", plain(6, 4)))
	wantTaken(t, s, "b", 3, 1)
	wantTaken(t, s, "b", 4, 5)
	wantEntries(t, s, "b", durable(2, 9), held(durable(5, 9), 4), held(plain(1, 4), 3), plain(3, 4), plain(4, 0))
	wantEntries(t, s, "a", plain(6, 4))
	wantEntries(t, s, "z")
	for _, none := range []string{"", "c", "A", "q", "bb"} {
		wantEntries(t, s, none)
	}
	wantApply(t, s, bind("b.*", "a"), bind("#", "z"), bind("b.*", "_"), bind("b.c", "a"))
	wantBindings(t, s, api.Binding{Pattern: "#", Queue: "z"}, api.Binding{Pattern: "b.*", Queue: "_"}, api.Binding{Pattern: "b.*", Queue: "a"}, api.Binding{Pattern: "b.c", Queue: "a"})
	wantMatch(t, s, "b.c", "_", "a", "z")
	wantMatch(t, s, "b", "z")
	for _, none := range []string{"", "*", "b..c", "B"} {
		if l, e := s.Match(none); len(l) != 0 || e != api.ErrAddress {
			t.Errorf("Match(%q): %v, %d", none, l, e)
		}
	}
}

// P21.7: they change nothing, and answer the same while the disk is down; so do Next and Peek, and Match is no ErrDown.
func TestLookWhileDown(t *testing.T) {
	s, d := made(t, declare(lasting("q", 5)), declare(passing("p", 5)), put("q", durable(1, 4)), put("p", plain(2, 4)), bind("a.*", "q"), bind("a.b", "p"))
	wantTaken(t, s, "p", 7, 2)
	look := func() string {
		l, e := s.Match("a.b")
		_, none := s.Match("")
		x, is := s.Peek("q", 0, nil)
		return told(s) + fmt.Sprint(l, e, none, toldEntry(x), is)
	}
	before, files := look(), toldFiles(d.Files())
	for range 3 {
		if look() != before || toldFiles(d.Files()) != files {
			t.Fatalf("%s, before: %s", look(), before)
		}
	}
	d.Crash(0)
	if after := look(); after != before {
		t.Fatalf("while the disk is down: %s, before: %s", after, before)
	}
}

// The Errors of the chapter: while the disk is down every call that answers an error answers ErrDown ahead of all else, but Match; Take gives nothing. Nothing has changed then.
func TestDown(t *testing.T) {
	s, d := made(t, declare(dying(passing("q", 5), "p", 1)), declare(lasting("p", 5)), put("q", plain(1, 4)), put("q", plain(2, 4)), put("q", until(plain(3, 0), 5)))
	wantTaken(t, s, "q", 7, 1)
	before := told(s)
	d.Crash(0)
	down := func(what string, got api.Errno) {
		t.Helper()
		wantErrno(t, what, got, api.ErrDown)
		if told(s) != before {
			t.Fatalf("%s: %s\nbefore: %s", what, told(s), before)
		}
	}
	for i, ops := range [][]api.Op{nil, {}, {declare(passing("n", 1))}, {declare(passing("N", 1))}, {declare(passing("q", 1))}, {gone("q")}, {gone("x")}, {bind("", "q")}, {bind("a", "q")}, {put("q", plain(4, 4))}, {put("x", plain(9, 4))}, {remove("q", 1)}, {remove("q", 9)}, {{}}, {put("q", plain(4, 4)), {Kind: 99}}} {
		n, e := s.Apply(ops)
		down(fmt.Sprint("Apply ", i), e)
		if n != 0 {
			t.Errorf("Apply %d: place %d", i, n)
		}
	}
	for _, queue := range []string{"q", "p", "x"} {
		for _, seq := range []int{1, 2, 9} {
			for _, holder := range []int{7, 8, 0, -1} {
				down("Back", s.Back(queue, seq, holder, false))
				down("Back", s.Back(queue, seq, holder, true))
				down("Bury", s.Bury(queue, seq, holder))
			}
		}
	}
	for _, n := range []int{-1, 0, 7} {
		down("Release", s.Release(n))
		gone, e := s.Expire(n)
		down("Expire", e)
		if gone != 0 {
			t.Errorf("Expire: %d", gone)
		}
	}
	down("Compact", s.Compact())
	for _, fits := range []func(api.Entry) bool{nil, func(api.Entry) bool { t.Error("fits is asked"); return true }} {
		if e, is := s.Take("q", 8, fits); is || toldEntry(e) != toldEntry(api.Entry{}) {
			t.Errorf("Take: %s, %t", toldEntry(e), is)
		}
	}
	down("Take", api.ErrDown)
}

// The Errors of the chapter: it is the disk that is down. When it is up again the store goes on, with all as it was; but once its journal has answered ErrDown, what is to be written is answered so for good.
func TestUpAgain(t *testing.T) {
	s, d := made(t, declare(lasting("q", 5)), declare(passing("p", 5)), put("q", durable(1, 4)), put("p", plain(2, 4)))
	d.Crash(0)
	wantRefusedDown(t, s, put("q", durable(3, 4)))
	_, e := s.Expire(5)
	for _, e := range []api.Errno{e, s.Compact(), s.Back("q", 1, 7, true), s.Bury("q", 1, 7), s.Release(7)} {
		wantErrno(t, "while the disk is down", e, api.ErrDown)
	}
	d.Start()
	wantTaken(t, s, "p", 7, 2)
	wantApply(t, s, put("q", durable(3, 4)))
	wantEntries(t, behindFall(t, d), "q", durable(1, 4), durable(3, 4))

	d.Arm(0, 0)
	wantRefusedDown(t, s, put("q", durable(4, 4)))
	d.Start()
	wantRefusedDown(t, s, put("q", durable(4, 4)))
	wantErrno(t, "Compact", s.Compact(), api.ErrDown)
	wantRefusedDown(t, s, remove("q", 1))
	wantOk(t, s.Release(7))
	wantApply(t, s)
	wantApply(t, s, put("q", plain(4, 4)), put("p", durable(5, 4)), remove("p", 2), declare(passing("r", 5)), bind("a", "r"))
	wantEntries(t, s, "q", durable(1, 4), durable(3, 4), plain(4, 4))
	wantEntries(t, opened(t, d), "q", durable(1, 4), durable(3, 4))
}

// wantRefusedDown wants that a batch is answered ErrDown, and that the store is as it was.
func wantRefusedDown(t *testing.T, s calls, ops ...api.Op) {
	t.Helper()
	before := told(s)
	if n, e := s.Apply(ops); n != 0 || e != api.ErrDown {
		t.Fatalf("Apply: %d, %d, want ErrDown", n, e)
	}
	if told(s) != before {
		t.Fatalf("%s, before: %s", told(s), before)
	}
}

// P21.3: the next number is at first 1, one more behind each put that is done, and as it was behind all else; also while the disk is down.
func TestNext(t *testing.T) {
	s, d := made(t)
	wantNext(t, s, 1)
	wantApply(t, s, declare(lasting("q", 9)), declare(dying(passing("p", 9), "q", 1)), bind("a", "q"))
	wantNext(t, s, 1)
	wantApply(t, s, put("q", durable(1, 4)), put("p", plain(2, 4)), put("p", plain(3, 4)))
	wantNext(t, s, 4)
	wantRefused(t, s, d, 2, api.ErrNoQueue, put("q", durable(4, 4)), put("q", durable(5, 4)), put("x", durable(6, 4)))
	wantNext(t, s, 4)
	wantApply(t, s, remove("q", 1))
	wantNext(t, s, 4)
	wantApply(t, s, put("q", durable(4, 4)), remove("q", 4), put("q", durable(5, 4)))
	wantNext(t, s, 6)
	wantTaken(t, s, "p", 7, 2)
	wantNext(t, s, 6)
	wantOk(t, s.Back("p", 2, 7, false))
	wantNext(t, s, 6)
	wantTaken(t, s, "p", 7, 2)
	wantOk(t, s.Back("p", 2, 7, true))
	wantNext(t, s, 7)
	wantTaken(t, s, "p", 7, 3)
	wantOk(t, s.Bury("p", 3, 7))
	wantNext(t, s, 8)
	wantOk(t, s.Compact(), s.Release(1))
	s.Expire(99)
	wantApply(t, s, gone("q"))
	wantNext(t, s, 8)
	d.Crash(0)
	wantNext(t, s, 8)
}

// P21.4: Take and Peek of no queue, and by no holder.
func TestTakeOfNothing(t *testing.T) {
	s, _ := made(t, declare(lasting("q", 5)), declare(lasting("e", 5)), put("q", durable(1, 4)))
	before := told(s)
	never := func(api.Entry) bool { t.Error("fits is asked"); return true }
	for _, queue := range []string{"", "x", "e", "Q"} {
		if e, is := s.Take(queue, 7, never); is || toldEntry(e) != toldEntry(api.Entry{}) {
			t.Errorf("Take(%q): %s, %t", queue, toldEntry(e), is)
		}
		if e, is := s.Peek(queue, 0, never); is || toldEntry(e) != toldEntry(api.Entry{}) {
			t.Errorf("Peek(%q): %s, %t", queue, toldEntry(e), is)
		}
	}
	for _, holder := range []int{0, -1, -1 << 63} {
		if e, is := s.Take("q", holder, never); is || toldEntry(e) != toldEntry(api.Entry{}) {
			t.Errorf("Take by %d: %s, %t", holder, toldEntry(e), is)
		}
	}
	if e, is := s.Take("q", 7, func(api.Entry) bool { return false }); is || toldEntry(e) != toldEntry(api.Entry{}) {
		t.Errorf("Take: %s, %t", toldEntry(e), is)
	}
	if told(s) != before {
		t.Errorf("%s, before: %s", told(s), before)
	}
}

// P21.4: Take and Peek are the queue's: by priority and age, and by rising numbers; asked of each in that order, up to the first one that fits; what is held is passed over. Nothing of it is written.
func TestTake(t *testing.T) {
	s, d := made(t, declare(lasting("q", 9)), put("q", durable(1, 4)), put("q", plain(2, 9)), put("q", counted(until(durable(3, 4), 5), 2)), put("q", durable(4, 9)))
	files := seen(d)
	var asked []string
	fits := func(seq int) func(api.Entry) bool {
		asked = nil
		return func(e api.Entry) bool { asked = append(asked, toldEntry(e)); return e.Seq == seq }
	}
	third := counted(until(durable(3, 4), 5), 2)
	if e, is := s.Peek("q", 1, fits(3)); !is || toldEntry(e) != toldEntry(third) || !slices.Equal(asked, []string{toldEntry(plain(2, 9)), toldEntry(third)}) {
		t.Errorf("Peek: %s, %t, asked of %v", toldEntry(e), is, asked)
	}
	if e, is := s.Take("q", 5, fits(1)); !is || toldEntry(e) != toldEntry(held(durable(1, 4), 5)) || !slices.Equal(asked, []string{toldEntry(plain(2, 9)), toldEntry(durable(4, 9)), toldEntry(durable(1, 4))}) {
		t.Errorf("Take: %s, %t, asked of %v", toldEntry(e), is, asked)
	}
	for _, want := range []api.Entry{plain(2, 9), durable(4, 9), third} {
		if e, is := s.Take("q", 6, nil); !is || toldEntry(e) != toldEntry(held(want, 6)) {
			t.Errorf("Take: %s, %t, want %s", toldEntry(e), is, toldEntry(want))
		}
	}
	if e, is := s.Take("q", 6, nil); is || toldEntry(e) != toldEntry(api.Entry{}) {
		t.Errorf("Take: %s, %t", toldEntry(e), is)
	}
	if e, is := s.Peek("q", 0, nil); is || toldEntry(e) != toldEntry(api.Entry{}) {
		t.Errorf("Peek: %s, %t", toldEntry(e), is)
	}
	wantEntries(t, s, "q", held(plain(2, 9), 6), held(durable(4, 9), 6), held(durable(1, 4), 5), held(third, 6))
	if seen(d) != files {
		t.Errorf("%s, before: %s", seen(d), files)
	}
}

// P21.4: Release gives back what a holder has in each queue, and nothing else; with the Counts that are there. It can be taken again, and is nobody's then.
func TestRelease(t *testing.T) {
	s, d := made(t, declare(lasting("b", 9)), declare(dying(passing("a", 9), "b", 5)), put("b", durable(1, 4)), put("a", plain(2, 4)), put("a", durable(3, 4)), put("b", plain(4, 4)), put("b", durable(5, 4)))
	for _, x := range []struct {
		queue  string
		seq    int
		holder int
	}{{"b", 1, 7}, {"a", 2, 7}, {"a", 3, 8}, {"b", 4, 7}} {
		wantTaken(t, s, x.queue, x.holder, x.seq)
	}
	wantOk(t, s.Back("a", 2, 7, true))
	wantTaken(t, s, "a", 7, 2)
	before, files := told(s), seen(d)
	wantOk(t, s.Release(0), s.Release(-7), s.Release(9), s.Release(1<<62))
	if told(s) != before {
		t.Errorf("%s, before: %s", told(s), before)
	}
	wantOk(t, s.Release(7))
	wantEntries(t, s, "a", counted(plain(2, 4), 1), held(durable(3, 4), 8))
	wantEntries(t, s, "b", durable(1, 4), plain(4, 4), durable(5, 4))
	wantErrno(t, "Back", s.Back("b", 1, 7, true), api.ErrEntry)
	wantErrno(t, "Bury", s.Bury("a", 2, 7), api.ErrEntry)
	wantTaken(t, s, "b", 9, 1)
	wantOk(t, s.Release(7))
	wantEntries(t, s, "b", held(durable(1, 4), 9), plain(4, 4), durable(5, 4))
	if seen(d) != files {
		t.Errorf("%s, before: %s", seen(d), files)
	}
	wantApply(t, s, remove("a", 2), remove("a", 3), remove("b", 1), remove("b", 4))
	wantOk(t, s.Release(8), s.Release(9))
	wantEntries(t, s, "a")
	wantEntries(t, s, "b", durable(5, 4))
}

// DOC.md: two stores of two disks have nothing in common.
func TestTwoStores(t *testing.T) {
	a, b := disk.New(10000), disk.New(10000)
	s, u := opened(t, a), opened(t, b)
	wantApply(t, s, declare(lasting("q", 2)))
	wantQueues(t, u)
	wantApply(t, u, declare(passing("q", 3)), declare(lasting("r", 3)))
	wantApply(t, s, put("q", durable(1, 4)), bind("a", "q"))
	wantApply(t, u, put("q", plain(1, 9)), put("r", durable(2, 9)), bind("#", "r"))
	wantTaken(t, s, "q", 7, 1)
	wantEntries(t, s, "q", held(durable(1, 4), 7))
	wantEntries(t, u, "q", plain(1, 9))
	wantNext(t, s, 2)
	wantNext(t, u, 3)
	a.Crash(0)
	wantErrno(t, "Compact", s.Compact(), api.ErrDown)
	wantOk(t, u.Compact(), u.Release(7))
	wantLog(t, a, []string{madeRecord(lasting("q", 2))}, []string{putRecord("q", durable(1, 4)), boundRecord("a", "q")})
	wantLog(t, b, []string{madeRecord(lasting("r", 3)), boundRecord("#", "r"), putRecord("r", durable(2, 9))})
}
