package queue_test

import (
	"fmt"
	"iter"
	"math"
	"slices"
	"strings"
	"testing"

	"longshore/api"
	"longshore/queue"
)

// The limits are said anew, not asked of the program.
const (
	maxName    = 64
	maxQueue   = 4096
	maxWord    = 4294967295
	maxTime    = 1125899906842624
	maxMessage = 1048576
)

// far are numbers far from all that may be meant, some alike modulo 2^32 or 2^8.
var far = []int{math.MinInt, math.MinInt + 1, -1 << 32, -256, 1 << 62, math.MaxInt - 1, math.MaxInt}

// entry is one whose Data tells which it is.
func entry(seq, priority int) api.Entry {
	return api.Entry{Seq: seq, Priority: priority, Expiry: -1, Data: fmt.Append(nil, "entry ", seq)}
}

// turned is an entry of which something is changed.
func turned(e api.Entry, turn func(e *api.Entry)) api.Entry {
	e.Data = slices.Clone(e.Data)
	turn(&e)
	return e
}

func held(e api.Entry, holder int) api.Entry {
	return turned(e, func(e *api.Entry) { e.Holder = holder })
}

func counted(e api.Entry, count int) api.Entry {
	return turned(e, func(e *api.Entry) { e.Count = count })
}

func until(e api.Entry, expiry int) api.Entry {
	return turned(e, func(e *api.Entry) { e.Expiry = expiry })
}

// told is something as text; an empty list and none are the same there.
func told(x any) string { return fmt.Sprintf("%+v", x) }

// brief is entries as the chapter writes them, with what is not zero beside Seq and Priority.
func brief(l ...api.Entry) string {
	var b []string
	for _, e := range l {
		s := fmt.Sprintf("%d/%d", e.Seq, e.Priority)
		if e.Holder != 0 {
			s += fmt.Sprint(" h", e.Holder)
		}
		if e.Count != 0 {
			s += fmt.Sprint(" c", e.Count)
		}
		b = append(b, s)
	}
	return strings.Join(b, ", ")
}

func config(most, tries int) api.QueueConfig {
	return api.QueueConfig{Name: "q", Most: most, Tries: tries}
}

func made(t *testing.T, c api.QueueConfig) *queue.Queue {
	t.Helper()
	q := queue.New(c)
	if q == nil {
		t.Fatalf("New(%s): nil", told(c))
	}
	return q
}

// filled is a queue that takes a hundred, with these entries.
func filled(t *testing.T, tries int, l ...api.Entry) *queue.Queue {
	t.Helper()
	q := made(t, config(100, tries))
	put(t, q, l...)
	return q
}

func put(t *testing.T, q *queue.Queue, l ...api.Entry) {
	t.Helper()
	for _, e := range l {
		wantErrno(t, "Put "+brief(e), q.Put(e), api.OK)
	}
}

// take lets a holder have the entry of this Seq.
func take(t *testing.T, q *queue.Queue, seq, holder int) {
	t.Helper()
	e, is := q.Take(holder, func(e api.Entry) bool { return e.Seq == seq })
	if !is || e.Seq != seq {
		t.Fatalf("Take of %d: %s, %v", seq, told(e), is)
	}
}

func wantErrno(t *testing.T, what string, got, want api.Errno) {
	t.Helper()
	if got != want {
		t.Fatalf("%s: %d, want %d", what, got, want)
	}
}

// wantGot wants an answer of Take or Peek.
func wantGot(t *testing.T, what string, got api.Entry, is bool, want api.Entry) {
	t.Helper()
	if !is || told(got) != told(want) {
		t.Fatalf("%s: %s, %v, want %s, true", what, told(got), is, told(want))
	}
}

func wantNone(t *testing.T, what string, got api.Entry, is bool) {
	t.Helper()
	if is || told(got) != told(api.Entry{}) {
		t.Fatalf("%s: %s, %v, want nothing, false", what, told(got), is)
	}
}

func wantTake(t *testing.T, q *queue.Queue, holder int, fits func(api.Entry) bool, want api.Entry) {
	t.Helper()
	got, is := q.Take(holder, fits)
	wantGot(t, "Take", got, is, held(want, holder))
}

func wantPeek(t *testing.T, q *queue.Queue, behind int, fits func(api.Entry) bool, want api.Entry) {
	t.Helper()
	got, is := q.Peek(behind, fits)
	wantGot(t, fmt.Sprintf("Peek(%d)", behind), got, is, want)
}

func wantBack(t *testing.T, q *queue.Queue, seq, holder int, failed bool, want api.Entry, wantDead bool) {
	t.Helper()
	if got, dead, e := q.Back(seq, holder, failed); told(got) != told(want) || dead != wantDead || e != api.OK {
		t.Fatalf("Back(%d, %d, %v): %s, %v, %d, want %s, %v", seq, holder, failed, told(got), dead, e, told(want), wantDead)
	}
}

func wantRemove(t *testing.T, q *queue.Queue, seq, holder int, want api.Entry) {
	t.Helper()
	if got, e := q.Remove(seq, holder); told(got) != told(want) || e != api.OK {
		t.Fatalf("Remove(%d, %d): %s, %d, want %s", seq, holder, told(got), e, told(want))
	}
}

func wantRelease(t *testing.T, q *queue.Queue, holder int, want ...int) {
	t.Helper()
	if got := q.Release(holder); !slices.Equal(got, want) {
		t.Fatalf("Release(%d): %v, want %v", holder, got, want)
	}
}

func wantExpire(t *testing.T, q *queue.Queue, now int, want ...api.Entry) {
	t.Helper()
	if got := q.Expire(now); told(got) != told(want) {
		t.Fatalf("Expire(%d): %s, want %s", now, told(got), told(want))
	}
}

// wantAll wants these entries, in this order, and of Len what they say.
func wantAll(t *testing.T, q *queue.Queue, want ...api.Entry) {
	t.Helper()
	if got := slices.Collect(q.All()); told(got) != told(want) {
		t.Fatalf("All(): %s, want %s", told(got), told(want))
	}
	free := 0
	for _, e := range want {
		if e.Holder == 0 {
			free++
		}
	}
	wantLen(t, q, free, len(want)-free)
}

func wantLen(t *testing.T, q *queue.Queue, free, held int) {
	t.Helper()
	if a, b := q.Len(); a != free || b != held {
		t.Fatalf("Len(): %d, %d, want %d, %d", a, b, free, held)
	}
}

// calls are what a queue can be asked.
type calls interface {
	Put(e api.Entry) api.Errno
	Take(holder int, fits func(api.Entry) bool) (api.Entry, bool)
	Peek(behind int, fits func(api.Entry) bool) (api.Entry, bool)
	Back(seq, holder int, failed bool) (api.Entry, bool, api.Errno)
	Remove(seq, holder int) (api.Entry, api.Errno)
	Release(holder int) []int
	Expire(now int) []api.Entry
	All() iter.Seq[api.Entry]
	Len() (int, int)
	Config() api.QueueConfig
}

var _ calls = (*queue.Queue)(nil)

// seen is what can be seen of a queue without a change of it.
func seen(q calls) string {
	free, held := q.Len()
	all := slices.Collect(q.All())
	s := fmt.Sprintf("%+v %d %d %+v;", q.Config(), free, held, all)
	behind := math.MinInt
	for range free + 1 {
		e, is := q.Peek(behind, nil)
		s += fmt.Sprint(" ", e, is)
		behind = e.Seq
	}
	return s
}

// probed is all that can be seen of a queue, by calls that change it, too: whom each is held by, what becomes of it, the highest Seq.
func probed(q calls) string {
	s := seen(q)
	for _, e := range slices.Collect(q.All()) {
		for _, holder := range []int{e.Holder, 9, e.Holder} {
			got, dead, err := q.Back(e.Seq, holder, true)
			s += fmt.Sprint(" ", got, dead, err)
		}
	}
	s += seen(q)
	for range q.Config().Most + 1 {
		e, is := q.Take(9, nil)
		s += fmt.Sprint(" ", e, is)
	}
	s += fmt.Sprint(q.Release(9), seen(q), q.Expire(maxTime), seen(q))
	for _, e := range slices.Collect(q.All()) {
		got, err := q.Remove(e.Seq, e.Holder)
		s += fmt.Sprint(" ", got, err)
	}
	for seq := range 80 {
		s += fmt.Sprint(" ", q.Put(entry(seq, 4)))
	}
	return s + seen(q)
}

// wantRefused wants that a call changes nothing; it says itself what it wants as an answer.
func wantRefused(t *testing.T, what string, again func() *queue.Queue, call func(q *queue.Queue)) {
	t.Helper()
	q := again()
	before := seen(q)
	call(q)
	if after := seen(q); after != before {
		t.Fatalf("%s: %s, before: %s", what, after, before)
	}
	if got, want := probed(q), probed(again()); got != want {
		t.Fatalf("%s: something has changed: %s, want %s", what, got, want)
	}
}

// busy is a queue in the midst of things: of seven entries that were there one has gone, two are held by one, one by another; one has failed, two have a time. One more has room, and the highest Seq has left.
func busy(t *testing.T) *queue.Queue {
	t.Helper()
	q := made(t, config(7, 3))
	put(t, q, entry(3, 4), entry(5, 9), until(entry(6, 0), 100), entry(8, 4), until(entry(11, 9), 50), counted(entry(12, 7), 1), entry(20, 4))
	take(t, q, 8, 2)
	wantBack(t, q, 8, 2, true, counted(entry(8, 4), 1), false)
	take(t, q, 5, 1)
	take(t, q, 6, 1)
	take(t, q, 12, 2)
	wantRemove(t, q, 20, 0, entry(20, 4))
	wantAll(t, q, inBusy()...)
	return q
}

func inBusy() []api.Entry {
	return []api.Entry{held(entry(5, 9), 1), until(entry(11, 9), 50), held(counted(entry(12, 7), 1), 2), entry(3, 4), counted(entry(8, 4), 1), held(until(entry(6, 0), 100), 1)}
}
