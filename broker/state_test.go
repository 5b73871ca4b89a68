package broker_test

import (
	"fmt"
	"slices"
	"strings"
	"testing"

	"longshore/api"
	"longshore/sample"
)

// held is a rig with the queue q {Dead d, Tries 2}, in which lies one message that was sent on the link of handle 0, and is held by it.
func held(t *testing.T, turns ...func(p *api.Perform)) (*rig, *peer) {
	t.Helper()
	r := made(t, declare(dying(passing("q", 9), "d", 2)), declare(passing("d", 9)), put("q", entry(1, 4, text("x", 4))))
	r.join()
	p := r.join() // so that its number is not that of its holder
	p.credits(p.receiver("r", "queue/q", turns...), 1)
	p.wants("got 0.0 #0 x")
	return r, p
}

// rich are states with as much in them as may be.
func rich() []api.State {
	ann := sample.Pairs(sample.Text(api.Symbol, "k"), sample.Within(3, sample.Num(api.Uint, 7)))
	return []api.State{
		{Kind: api.KRejected, Fault: api.Fault{Cond: "no", Text: "why", Info: ann}},
		{Kind: api.KModified, Failed: true, Elsewhere: true, Ann: ann},
		{Kind: api.KModified, Elsewhere: true, Ann: ann},
	}
}

// P23.8: each outcome, told settled and not, of a link that moves: what becomes of the message, and what the peer is told. Elsewhere is not looked at.
func TestOutcomes(t *testing.T) {
	var free, back, dead []string = []string{"1/4 x"}, []string{"1/4 x failed 1"}, []string{"2/4 x"}
	for i, c := range []struct {
		s    api.State
		q, d []string
	}{
		{accepted, nil, nil},
		{api.State{Kind: api.KRejected}, nil, dead},
		{rejected("no"), nil, dead},
		{released, free, nil},
		{modified, free, nil},
		{failed, back, nil},
		{rich()[0], nil, dead},
		{rich()[1], back, nil},
		{rich()[2], free, nil},
	} {
		for _, settled := range []bool{false, true} {
			r, p := held(t)
			p.says(0, 0, c.s, settled)
			if settled {
				p.wants()
			} else {
				p.wants("state 0.0 #0 " + told(c.s) + " settled")
			}
			if q, d := lyingAll(r.s.Entries("q")), lyingAll(r.s.Entries("d")); !slices.Equal(q, c.q) || !slices.Equal(d, c.d) {
				t.Errorf("%d %t: %q, %q", i, settled, q, d)
			}
			// It may be given again at once, to this link too.
			p.credits(0, 1)
			if c.q == nil {
				p.wants()
			} else {
				p.wants("got 0.0 #1 " + strings.ReplaceAll(strings.TrimPrefix(c.q[0], "1/4 "), "failed", "count"))
			}
		}
	}
}

// P23.8: no outcome and not settled: nothing. No outcome, or no state, but settled: released.
func TestNoOutcome(t *testing.T) {
	for i, s := range []api.State{none, received, declared("t1"), within("t1")} {
		r, p := held(t)
		if i > 0 {
			p.says(0, 0, s, false)
			p.wants()
			r.lies("q", "1/4 x held 1")
		}
		p.says(0, 0, s, true)
		p.wants()
		r.lies("q", "1/4 x")
		p.credits(0, 1)
		p.wants("got 0.0 #1 x")
	}
	// Several that say nothing, and then one that does.
	r, p := held(t)
	for i := range 5 {
		p.says(0, 0, api.State{Kind: api.KReceived, Offset: i}, false)
		p.wants()
		r.lies("q", "1/4 x held 1")
	}
	p.answers(0, 0, accepted)
	r.lies("q")
}

// P23.8: a message that has failed as often as its queue lets it is dead: with each way of saying so.
func TestDead(t *testing.T) {
	r, p := held(t)
	p.answers(0, 0, failed)
	r.lies("q", "1/4 x failed 1")
	p.credits(0, 1)
	p.wants("got 0.0 #1 x count 1")
	p.answers(0, 1, modified)
	r.lies("q", "1/4 x failed 1")
	p.credits(0, 1)
	p.wants("got 0.0 #2 x count 1")
	p.answers(0, 2, failed)
	r.lies("q")
	r.lies("d", "2/4 x failed 2")
	// With its count in the header, to whom the dead ones are sent.
	l := p.receiver("d", "queue/d")
	p.credits(l, 1)
	p.wants(fmt.Sprintf("got 0.%d #0 x count 2", l))
}

// P23.8: within a transaction: each inner outcome is kept till it is discharged; the peer is told at once.
func TestOutcomesWithin(t *testing.T) {
	for i, c := range []struct {
		s    api.State
		q, d []string
	}{
		{accepted, nil, nil},
		{api.State{Kind: api.KRejected}, nil, []string{"2/4 x"}},
		{released, []string{"1/4 x"}, nil},
		{modified, []string{"1/4 x"}, nil},
		{failed, []string{"1/4 x failed 1"}, nil},
		{rich()[0], nil, []string{"2/4 x"}},
		{rich()[1], []string{"1/4 x failed 1"}, nil},
	} {
		for _, settled := range []bool{false, true} {
			for _, fail := range []bool{false, true} {
				r, p := held(t)
				x := p.sender("x", "txns")
				p.declares(x, "t1")
				p.says(0, 0, within("t1", c.s), settled)
				if settled {
					p.wants()
				} else {
					p.wants("state 0.0 #0 " + told(within("t1", c.s)) + " settled")
				}
				r.lies("q", "1/4 x held 1")
				p.credits(0, 9) // nothing is given of what it holds
				p.wants()
				p.credits(0, 0)
				p.discharges(x, "t1", fail, accepted)
				q, d := c.q, c.d
				if fail {
					q, d = []string{"1/4 x held 1"}, nil
				}
				if got, dead := lyingAll(r.s.Entries("q")), lyingAll(r.s.Entries("d")); !slices.Equal(got, q) || !slices.Equal(dead, d) {
					t.Errorf("%d: %q, %q", i, got, dead)
				}
			}
		}
	}
}

// P23.8: a transaction that does not take it: as modified, failed; the peer is told its own state all the same.
func TestOutcomeIsNotTaken(t *testing.T) {
	for i, s := range []api.State{within("t1", accepted), within("t2", accepted), within("x", rejected("no")), within("t9", released), within("t3", modified)} {
		for _, settled := range []bool{false, true} {
			r, p := held(t)
			other := r.join()
			other.declares(other.sender("x", "txns"), "t1") // not ours
			x := p.sender("x", "txns")
			p.declares(x, "t2")
			if i == 1 { // it is full
				s := p.sender("s", "queue/q")
				for range maxOps {
					p.sendsSettled(s, "p", text("p", 4), within("t2"))
				}
			}
			p.says(0, 0, s, settled)
			if settled {
				p.wants()
			} else {
				p.wants("state 0.0 #0 " + told(s) + " settled")
			}
			r.lies("q", "1/4 x failed 1")
			p.discharges(x, "t2", i == 1, accepted)
			r.lies("q", "1/4 x failed 1")
			// Once more, and it is dead.
			p.credits(0, 1)
			p.wants("got 0.0 #1 x count 1")
			p.answers(0, 1, within("t9", accepted))
			r.lies("q")
			r.lies("d", "2/4 x failed 2")
		}
	}
}

// P23.8: of a link that copies nothing becomes of the message, whatever is said; what was not settled is settled with the state.
func TestOutcomesOfCopies(t *testing.T) {
	for _, s := range append(rich(), none, received, accepted, rejected("no"), released, modified, failed, within("t1"), within("t1", accepted), within("t9", failed)) {
		for _, settled := range []bool{false, true} {
			if s.Kind == 0 && !settled {
				continue
			}
			r := made(t, declare(dying(passing("q", 9), "d", 1)), declare(passing("d", 9)), put("q", entry(1, 4, text("x", 4))))
			p := r.join()
			p.credits(p.receiver("r", "queue/q", copying), 1)
			p.wants("got 0.0 #0 x")
			x := p.sender("x", "txns")
			p.declares(x, "t1")
			before := stored(r.s)
			p.says(0, 0, s, settled)
			if settled || s.Kind == api.KReceived || s.Kind == api.KTransactional && len(s.Inner) == 0 {
				p.wants()
			} else {
				p.wants("state 0.0 #0 " + told(s) + " settled")
			}
			p.credits(0, 5)
			p.wants() // it does not come again
			p.discharges(x, "t1", false, accepted)
			if after := stored(r.s); after != before {
				t.Errorf("%s: %s\nbefore: %s", told(s), after, before)
			}
		}
	}
}

// P23.8: a delivery is done with once: what is said of it later, where the end still knows it, does nothing.
func TestDoneWithOnce(t *testing.T) {
	great := api.State{Kind: api.KRejected, Fault: api.Fault{Cond: "no", Text: strings.Repeat("x", 600)}}
	for _, turn := range []func(p *api.Perform){func(p *api.Perform) {}, copying} {
		r := made(t, declare(dying(passing("q", 9), "d", 0)), declare(passing("d", 9)), put("q", entry(1, 4, text("x", 4))), put("q", entry(2, 4, text("y", 4))))
		p := r.join(narrow)
		p.credits(p.receiver("r", "queue/q", turn), 2)
		p.wants("got 0.0 #0 x", "got 0.0 #1 y")
		p.says(0, 0, great, false) // too long to be said to the peer: the end does not settle it
		p.wants()
		before := stored(r.s)
		for _, s := range []api.State{accepted, released, failed, rejected("no"), within("t1", accepted)} {
			p.says(0, 0, s, false)
			p.wants()
		}
		p.says(0, 0, none, true)
		p.wants()
		if after := stored(r.s); after != before {
			t.Errorf("%s\nbefore: %s", after, before)
		}
		p.answers(0, 1, accepted)
	}
}

// P23.8: what is said of a message that has gone, or of a queue that has, is answered likewise.
func TestMessageIsGone(t *testing.T) {
	for _, s := range []api.State{accepted, rejected("no"), released, modified, failed, within("t1", accepted)} {
		for _, op := range []api.Op{remove("q", 1), gone("q")} {
			r, p := held(t)
			p.declares(p.sender("x", "txns"), "t1")
			r.apply(op)
			before := stored(r.s)
			p.answers(0, 0, s)
			if after := stored(r.s); after != before {
				t.Errorf("%s\nbefore: %s", after, before)
			}
		}
	}
}

// P23.8: what a peer says as the sender of a delivery that came concerns no message; nor what it says of a delivery that was sent settled.
func TestStatesOfOthers(t *testing.T) {
	r := made(t, declare(passing("q", 9)), put("q", entry(1, 4, text("x", 4))))
	p := r.join()
	p.credits(p.receiver("r", "queue/q", settling), 1)
	p.wants("got 0.0 #0 x settled")
	s := p.sender("s", "queue/q")
	p.sends(s, "t", text("y", 4), accepted)
	before := stored(r.s)
	for _, receiver := range []bool{false, true} {
		p.feeds(framed(0, api.Perform{Kind: api.KDisposition, Receiver: receiver, First: 0, Last: 9, Settled: true, State: rejected("no")}))
	}
	p.wants()
	if after := stored(r.s); after != before {
		t.Errorf("%s\nbefore: %s", after, before)
	}
}

// P23.8: a receiver that settles second says its outcome, and is told that it is settled.
func TestSettledSecond(t *testing.T) {
	for _, s := range []api.State{accepted, rejected("no"), released, failed} {
		_, p := held(t, func(p *api.Perform) { p.RcvMode = api.RcvSecond })
		p.answers(0, 0, s)
	}
}
