package link_test

import (
	"fmt"
	"math/rand"
	"testing"

	"longshore/api"
	"longshore/link"
)

// parcel is what goes from one end to the other one: a Flow, or (of the Kind 0) a delivery.
type parcel struct {
	flow    api.Perform
	tag     string
	settled bool
}

// pair is a sender and a receiver, with what is under way either way.
type pair struct {
	s, r             *link.Link
	toR, toS         []parcel
	sent, got, drain int // in all
	between          int // deliveries that came when the receiver had no credit any more
}

func newPair(t *testing.T, snd, rcv, first int) *pair {
	t.Helper()
	return &pair{s: made(t, config(false, snd, rcv, first)), r: made(t, config(true, snd, rcv, first))}
}

func (p *pair) grant(t *testing.T, credit int, drain bool) {
	t.Helper()
	wantErrno(t, "Grant", p.r.Grant(credit, drain), api.OK)
	p.toS = append(p.toS, parcel{flow: p.r.Fields(7)})
}

func (p *pair) send(t *testing.T, tag string, settled bool) {
	t.Helper()
	wantErrno(t, "Send", p.s.Send(tag, settled), api.OK)
	p.sent++
	p.toR = append(p.toR, parcel{tag: tag, settled: settled})
}

func (p *pair) drained() {
	if p.s.Drained() {
		p.drain++
		p.toR = append(p.toR, parcel{flow: p.s.Fields(9)})
	}
}

// atSender and atReceiver take what comes over first; no answer may be an error.
func (p *pair) atSender(t *testing.T) {
	t.Helper()
	wantErrno(t, "Flow to the sender", p.s.Flow(p.toS[0].flow), api.OK)
	p.toS = p.toS[1:]
}

func (p *pair) atReceiver(t *testing.T) {
	t.Helper()
	x := p.toR[0]
	p.toR = p.toR[1:]
	if x.flow.Kind == api.KFlow {
		wantErrno(t, "Flow to the receiver", p.r.Flow(x.flow), api.OK)
		return
	}
	if p.r.See().Credit == 0 {
		p.between++
	}
	wantErrno(t, "Got", p.r.Got(x.tag, x.settled), api.OK)
	p.got++
}

// wantAgreed is what holds whenever nothing is under way.
func (p *pair) wantAgreed(t *testing.T) {
	t.Helper()
	s, r := p.s.See(), p.r.See()
	if s.Count != r.Count || s.Credit != r.Credit || p.sent != p.got {
		t.Fatalf("the sender %+v, the receiver %+v, %d sent, %d got", s, r, p.sent, p.got)
	}
}

func (p *pair) quiet() bool { return len(p.toS) == 0 && len(p.toR) == 0 }

// act does something by chance at one end.
func (p *pair) act(t *testing.T, r *rand.Rand, snd, rcv int) {
	t.Helper()
	switch n := r.Intn(14); {
	case n < 4 && p.s.See().Credit > 0:
		settled := snd == api.SndSettled || snd == api.SndMixed && r.Intn(2) == 0
		p.send(t, fmt.Sprint("t", p.sent), settled)
	case n < 5:
		p.grant(t, r.Intn(6), r.Intn(3) == 0)
	case n == 5 && r.Intn(10) == 0:
		p.grant(t, []int{100, 1 << 20, mostCredit - 1, mostCredit}[r.Intn(4)], r.Intn(2) == 0)
	case n == 6:
		p.drained()
	case n == 7:
		wantErrno(t, "Available", p.s.Available(r.Intn(9)), api.OK)
	case n == 8:
		p.settle(t, r, rcv)
	case n < 11 && len(p.toS) > 0:
		p.atSender(t)
	case len(p.toR) > 0:
		p.atReceiver(t)
	}
}

// settle lets what is unsettled be settled at either end: to the credit that is nothing.
func (p *pair) settle(t *testing.T, r *rand.Rand, rcv int) {
	t.Helper()
	l := p.s
	if r.Intn(2) == 0 && rcv == api.RcvFirst {
		l = p.r
	}
	for _, u := range l.Unsettled() {
		wantErrno(t, "Own", l.Own(u.Tag, accepted, r.Intn(2) == 0), api.OK)
	}
}

// P14.10: deliveries and Fields under way in any mixture, credit given and taken back in the midst, Drain, numbers near where they go round.
func TestBothAgree(t *testing.T) {
	r := rand.New(rand.NewSource(1410))
	starts := []int{0, 1, 5, mostCredit - 3, mostCredit, mostCredit + 1, maxWord - 20, maxWord - 1, maxWord}
	sent, drained, quiet, between := 0, 0, 0, 0
	for i := range 3000 {
		snd, rcv := i%3, i/3%2
		p := newPair(t, snd, rcv, starts[r.Intn(len(starts))])
		for range 200 {
			p.act(t, r, snd, rcv)
			if p.quiet() {
				quiet++
				p.wantAgreed(t)
			}
		}
		for !p.quiet() {
			if len(p.toS) > 0 && (len(p.toR) == 0 || r.Intn(2) == 0) {
				p.atSender(t)
			} else {
				p.atReceiver(t)
			}
		}
		p.wantAgreed(t)
		sent, drained, between = sent+p.sent, drained+p.drain, between+p.between
	}
	if sent < 30000 || drained < 2000 || quiet < 20000 || between < 2000 {
		t.Errorf("little was shown: %d deliveries, %d drains, %d times nothing was under way, %d came without credit", sent, drained, quiet, between)
	}
}

// P14.10: as much credit as there is, given up at one stroke, again and again, many times round the numbers.
func TestBothAgreeFarOn(t *testing.T) {
	r := rand.New(rand.NewSource(1411))
	for _, first := range []int{0, mostCredit, maxWord} {
		p := newPair(t, api.SndMixed, api.RcvFirst, first)
		for i := range 400 {
			p.grant(t, mostCredit-r.Intn(3)*r.Intn(1<<30), true)
			for range r.Intn(3) {
				p.grant(t, r.Intn(1<<31), r.Intn(2) == 0)
			}
			for len(p.toS) > 0 {
				p.atSender(t)
				if p.s.See().Credit > 0 {
					p.send(t, fmt.Sprint("t", i, len(p.toS)), true)
				}
				p.drained()
			}
			for len(p.toR) > 0 {
				p.atReceiver(t)
			}
			p.wantAgreed(t)
		}
		if p.drain < 300 {
			t.Errorf("only %d drains", p.drain)
		}
	}
}

// P14.10: credit is taken back while deliveries are under way: they are taken, and both count alike then.
func TestTakenBackUnderWay(t *testing.T) {
	p := newPair(t, api.SndMixed, api.RcvFirst, maxWord-1)
	p.grant(t, 5, false)
	p.atSender(t)
	for i := range 4 {
		p.send(t, fmt.Sprint("t", i), true)
	}
	p.grant(t, 0, false)
	p.grant(t, 2, true)
	p.atReceiver(t)
	p.atSender(t)
	wantErrno(t, "Send", p.s.Send("u", true), api.ErrCredit)
	p.atSender(t)
	if st := p.s.See(); st.Count != 2 || st.Credit != 0 || !st.Drain {
		t.Errorf("%+v", st)
	}
	for len(p.toR) > 0 {
		p.atReceiver(t)
	}
	p.wantAgreed(t)
	if st := p.r.See(); st.Count != 2 || st.Credit != 0 || st.Drain {
		t.Errorf("%+v", st)
	}
	// The bound is 3: the fifth was asked for once, and would be taken.
	wantErrno(t, "Got", p.r.Got("late", true), api.OK)
	wantErrno(t, "Got", p.r.Got("later", true), api.ErrCredit)
}

// P14.10: a drain and more credit pass each other on their way.
func TestDrainMeetsCredit(t *testing.T) {
	p := newPair(t, api.SndMixed, api.RcvFirst, 10)
	p.grant(t, 4, true)
	p.atSender(t)
	p.send(t, "a", true)
	p.drained()          // up to 14
	p.grant(t, 6, false) // up to 16
	p.atSender(t)
	if st := p.s.See(); st.Count != 14 || st.Credit != 2 || st.Drain {
		t.Errorf("%+v", st)
	}
	p.send(t, "b", true)
	for len(p.toR) > 0 {
		p.atReceiver(t)
	}
	p.wantAgreed(t)
	if st := p.r.See(); st.Count != 15 || st.Credit != 1 {
		t.Errorf("%+v", st)
	}
}
