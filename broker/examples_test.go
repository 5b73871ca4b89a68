package broker_test

import (
	"testing"

	"longshore/api"
)

// The chapter's list of errors, and the limits.
func TestNumbers(t *testing.T) {
	for i, e := range []struct{ got, want api.Errno }{
		{api.ErrArg, 1}, {api.ErrDown, 3}, {api.ErrNoConn, 230}, {api.ErrBrokers, 232}, {api.ErrDiskFull, 190},
	} {
		if e.got != e.want {
			t.Errorf("error %d: %d, want %d", i, e.got, e.want)
		}
	}
	for i, n := range []struct{ got, want int }{
		{api.MaxConns, maxConns}, {api.MaxQueue, maxQueue}, {api.MaxTime, maxTime}, {api.MaxMessage, maxMessage}, {api.MaxTxns, maxTxns}, {api.MaxOps, maxOps}, {api.MaxQueues, maxQueues}, {api.MaxBinds, maxBinds}, {api.MaxLinks, maxLinks},
	} {
		if n.got != n.want {
			t.Errorf("limit %d: %d, want %d", i, n.got, n.want)
		}
	}
}

// The chapter's table of examples, row by row.
func TestExamples(t *testing.T) {
	r := made(t, declare(lasting("q", 2)))
	p := r.join()

	s := p.attaches(sends("s", "queue/q"), "attach #", "flow # 16")

	p.sends(s, "t1", text("low", 4), accepted)
	p.sends(s, "t2", text("high", 9), accepted)
	r.lies("q", "2/9 high", "1/4 low")

	p.sends(s, "t3", text("more", 4), rejected("resource-limit-exceeded"))
	r.lies("q", "2/9 high", "1/4 low")

	l := p.attaches(receives("r", "queue/q"), "attach #")
	p.credits(l, 1)
	p.wants("got 0.1 #0 high")

	p.says(l, 0, released, true)
	p.wants()
	p.credits(l, 2)
	p.wants("got 0.1 #1 high", "got 0.1 #2 low")

	p.says(l, 1, accepted, true)
	p.says(l, 2, failed, true)
	p.credits(l, 1)
	p.wants("got 0.1 #3 low count 1")

	p.detaches(l)
	r.lies("q", "1/4 low failed 1")

	p.attaches(receives("x", "queue/none"), "refused #", "detach # not-found")
}

// DOC.md's examples 5, 6 and 7: links answered and refused, a queue that is full, priorities and a filter.
func TestExamplesOfTheWhole(t *testing.T) {
	r := made(t, declare(lasting("q", 2)), declare(lasting("p", 9)))
	p := r.join()
	s := p.sender("s", "queue/q")
	p.attaches(sends("none", "queue/none"), "refused #", "detach # not-found")
	p.sends(s, "a", text("a", 4), accepted)
	p.sends(s, "b", text("b", 4), accepted)
	p.sends(s, "c", text("c", 4), rejected("resource-limit-exceeded"))
	s = p.sender("p", "queue/p")
	for i, priority := range []int{4, 9, 4} {
		p.sends(s, string(rune('a'+i)), text(string(rune('a'+i)), priority), accepted)
	}
	copied := p.receiver("copied", "queue/p", copying, filtered("priority > 5"))
	p.credits(copied, 9)
	p.wants("got 0.2 #0 b")
	l := p.receiver("r", "queue/p")
	p.credits(l, 9)
	p.wants("got 0.3 #0 b", "got 0.3 #1 a", "got 0.3 #2 c")
}
