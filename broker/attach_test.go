package broker_test

import (
	"fmt"
	"slices"
	"strings"
	"testing"

	"longshore/api"
	"longshore/sample"
)

// answer attaches a link, and is what the broker writes.
func (p *peer) answer(a api.Perform) []api.Perform {
	p.t.Helper()
	p.attachesOnly(0, a)
	p.feeds(p.c.Out())
	out := p.b.Out(p.n)
	p.hears(out)
	p.seen = nil
	return performs(out)
}

func wantPerforms(t *testing.T, what string, got []api.Perform, want ...api.Perform) {
	t.Helper()
	var g, w []string
	for _, p := range got {
		g = append(g, told(p))
	}
	for _, p := range want {
		w = append(w, told(p))
	}
	if !slices.Equal(g, w) {
		t.Fatalf("%s:\n  %s\nwant\n  %s", what, strings.Join(g, "\n  "), strings.Join(w, "\n  "))
	}
}

// attached is an Attach, in that order of fields in which the chapter says it; all else is blank.
func attached(handle int, name string, receiver bool, sndMode, rcvMode int, source, target api.Terminus, first, maxMessage int) api.Perform {
	return with(api.KAttach, func(p *api.Perform) {
		p.Handle, p.Name, p.Receiver, p.SndMode, p.RcvMode = handle, name, receiver, sndMode, rcvMode
		p.Source, p.Target, p.InitialCount, p.MaxMessage = source, target, first, maxMessage
	})
}

func detached(handle int, cond string) api.Perform {
	return api.Perform{Kind: api.KDetach, Handle: handle, Closed: true, Fault: api.Fault{Cond: cond}}
}

// credit16 is a link's Flow in a session in which nothing was sent.
func credit16(handle, count int) api.Perform {
	return with(api.KFlow, func(p *api.Perform) {
		p.NextIn, p.InWin, p.NextOut, p.OutWin = 0, 1000, 0, maxWord
		p.Handle, p.Count, p.Credit, p.Available = handle, count, 16, -1
	})
}

// full are termini with as much in them as may be.
func fullSource(address string) api.Terminus {
	return api.Terminus{
		Kind: api.KSource, Address: address, Durable: 2, Expiry: api.ExpNever, Timeout: 77, Mode: 1, Filter: "priority > 4",
		Default: modified, Outcomes: []string{"longshore:accepted:list", "longshore:released:list"}, Caps: []string{"a", "b"},
	}
}

func fullTarget(address string) api.Terminus {
	return api.Terminus{Kind: api.KTarget, Address: address, Durable: 1, Expiry: api.ExpConn, Timeout: 78, Caps: []string{"c"}}
}

// modes go through all that a peer may say of how it settles.
func modes(do func(sndMode, rcvMode int)) {
	for sndMode := range 3 {
		for rcvMode := range 2 {
			do(sndMode, rcvMode)
		}
	}
}

// P23.6: what answers a peer that sends: all fields, with each mode, to each thing to which a link may lead; and the credit ahead.
func TestAnswerToSender(t *testing.T) {
	for _, target := range []api.Terminus{
		{Kind: api.KTarget, Address: "queue/q"}, {Kind: api.KTarget, Address: "topic/a.b"}, {Kind: api.KTarget, Address: "txns"}, {Kind: api.KCoordinator}, {Kind: api.KCoordinator, Caps: []string{"local"}},
		fullTarget("queue/q"), fullTarget("topic/a"), fullTarget("txns"),
	} {
		modes(func(sndMode, rcvMode int) {
			for _, source := range []api.Terminus{{}, {Kind: api.KSource, Address: "here"}, fullSource("queue/none")} {
				r := made(t, declare(passing("q", 9)))
				p := r.join()
				got := p.answer(with(api.KAttach, func(p *api.Perform) {
					p.Name, p.SndMode, p.RcvMode, p.Source, p.Target, p.InitialCount = "name", sndMode, rcvMode, source, target, 5
					p.MaxMessage, p.Incomplete, p.Props = 99, true, sample.Pairs(sample.Text(api.Symbol, "k"), sample.Num(api.Uint, 1))
					p.Unsettled = []api.Unsettled{{Tag: "old", State: accepted}}
				}))
				wantPerforms(t, told(target), got, attached(0, "name", true, sndMode, api.RcvFirst, source, target, -1, maxMessage), credit16(0, 5))
				r.queues("q")
			}
		})
	}
}

// P23.6: what answers a peer that receives: all fields, with each mode, of each thing that a link may serve.
func TestAnswerToReceiver(t *testing.T) {
	for i, source := range []api.Terminus{
		{Kind: api.KSource, Address: "queue/q"}, fullSource("queue/q"), {Kind: api.KSource, Address: "topic/a.*"}, fullSource("topic/#"),
		{Kind: api.KSource, Dynamic: true}, {Kind: api.KSource, Dynamic: true, Address: "queue/none"}, {Kind: api.KSource, Dynamic: true, Address: "nowhere"}, {Kind: api.KSource, Dynamic: true, Address: "txns"}, fullSource("queue/q"),
	} {
		source.Dynamic = source.Dynamic || i == 8
		modes(func(sndMode, rcvMode int) {
			for _, target := range []api.Terminus{{}, {Kind: api.KTarget, Address: "here"}, {Kind: api.KCoordinator}, fullTarget("queue/none")} {
				r := made(t, declare(passing("q", 9)))
				p := r.join()
				got := p.answer(with(api.KAttach, func(p *api.Perform) {
					p.Name, p.Receiver, p.SndMode, p.RcvMode, p.Source, p.Target = "name", true, sndMode, rcvMode, source, target
					p.MaxMessage, p.Incomplete, p.Props = 99, true, sample.Pairs(sample.Text(api.Symbol, "k"), sample.Num(api.Uint, 1))
					p.Unsettled = []api.Unsettled{{Tag: "old", State: accepted}}
				}))
				wantSource, wantMode := source, api.SndOpen
				if source.Dynamic {
					wantSource.Address = "queue/tmp-1"
				}
				if sndMode == api.SndSettled {
					wantMode = api.SndSettled
				}
				wantPerforms(t, told(source), got, attached(0, "name", false, wantMode, rcvMode, wantSource, target, 0, 0))
				switch {
				case source.Dynamic:
					r.queues("q", "tmp-1")
				case i == 2 || i == 3:
					r.queues("q", "sub-1")
				default:
					r.queues("q")
				}
			}
		})
	}
}

// refusals wants that links are refused with a condition: an Attach without a source and a target, and a Detach; and nothing else has changed.
func refusals(t *testing.T, r *rig, p *peer, cond string, all ...api.Perform) {
	t.Helper()
	for _, a := range all {
		modes(func(sndMode, rcvMode int) {
			a.SndMode, a.RcvMode = sndMode, rcvMode
			before := r.all()
			got := p.answer(a)
			first := -1
			if a.Receiver {
				first = 0
			}
			wantPerforms(t, told(a), got, attached(0, a.Name, !a.Receiver, sndMode, rcvMode, api.Terminus{}, api.Terminus{}, first, 0), detached(0, cond))
			p.wants()
			if after := r.all(); after != before {
				t.Fatalf("%s: %s\nbefore: %s", told(a), after, before)
			}
		})
	}
}

// P23.6: a peer that sends is refused, by the first thing that applies.
func TestSenderIsRefused(t *testing.T) {
	r := made(t, declare(passing("q", 9)), bind("a.*", "q"))
	p := r.join()
	to := func(target api.Terminus) api.Perform {
		return sends("s", "", func(p *api.Perform) { p.Target, p.Source, p.MaxMessage = target, fullSource("queue/q"), 7 })
	}
	at := func(address string) api.Perform { return to(fullTarget(address)) }
	refusals(t, r, p, "not-implemented",
		to(api.Terminus{}),
		to(api.Terminus{Kind: api.KTarget, Dynamic: true}),
		to(api.Terminus{Kind: api.KTarget, Dynamic: true, Address: "queue/q"}),
		to(api.Terminus{Kind: api.KTarget, Dynamic: true, Address: "nowhere"}),
		to(api.Terminus{Kind: api.KTarget, Dynamic: true, Address: "txns"}),
		to(api.Terminus{Kind: api.KTarget, Dynamic: true, Address: "topic/*"}),
	)
	refusals(t, r, p, "invalid-field",
		at(""), at("q"), at("queue/"), at("queue/Q"), at("queue/"+strings.Repeat("q", 65)), at("topic/"), at("topic/a..b"), at("topic/A"), at("txns/"), at("Txns"), at("queue/q "), at("topic/a.b.c.d.e.f.g.h.i"),
		at("topic/*"), at("topic/#"), at("topic/a.*"), at("topic/*.a"), at("topic/a.#.b"), at("topic/a.b.c.d.e.f.g.#"),
	)
	refusals(t, r, p, "not-found", at("queue/none"), at("queue/q1"), at("queue/"+strings.Repeat("q", 64)), at("queue/tmp-1"))
	// What is there is taken, also with 64 bytes, or 8 words.
	name := strings.Repeat("q", 64)
	r.apply(declare(passing(name, 1)))
	p.sender("a", "queue/"+name)
	p.sender("b", "topic/"+strings.Repeat("abcdefghijklmnopqrstuvwxyz-01234.", 7)+"a")
}

// P23.6: a peer that receives is refused, by the first thing that applies; no private queue was asked for.
func TestReceiverIsRefused(t *testing.T) {
	r := made(t, declare(passing("q", 9)), bind("a.*", "q"))
	p := r.join()
	from := func(source api.Terminus) api.Perform {
		return receives("r", "", func(p *api.Perform) { p.Source, p.Target, p.MaxMessage = source, fullTarget("queue/q"), 7 })
	}
	at := func(address string) api.Perform { return from(fullSource(address)) }
	var filters []api.Perform
	for _, filter := range []string{"n >", " ", "'", "a b", "1e999", "(", strings.Repeat("a or ", 300) + "a", "a like 'x' escape '%'"} {
		for _, address := range []string{"queue/q", "queue/none", "nowhere", "topic/a.b"} {
			source := api.Terminus{Kind: api.KSource, Address: address, Filter: filter}
			filters = append(filters, from(source))
			source.Dynamic = true
			filters = append(filters, from(source))
		}
	}
	refusals(t, r, p, "invalid-field", from(api.Terminus{}), at(""), at("q"), at("queue/"), at("queue/Q"), at("topic/"), at("topic/a..b"), at("topic/#.#.#"), at("txns"), at("txns/"))
	refusals(t, r, p, "invalid-field", filters...)
	refusals(t, r, p, "not-found", at("queue/none"), at("queue/tmp-1"), at("queue/sub-1"))
	r.queues("q")
	p.receiver("r", "topic/*")
	r.queues("q", "sub-1")
}

// P23.6, the chapter's word: private queues are named by one count, which no name stands for twice; what they are made with.
func TestPrivateQueues(t *testing.T) {
	r := made(t, declare(lasting("q", 9)))
	p, other := r.join(), r.join()
	a := p.receiver("a", "", dynamic)
	b := p.receiver("b", "topic/a.#.b")
	c := other.receiver("c", "", dynamic, copying, filtered("priority > 5"))
	d := other.receiver("d", "topic/a.#.b", copying, settling)
	r.queues("q", "sub-2", "sub-4", "tmp-1", "tmp-3")
	for _, x := range r.s.Queues()[1:] {
		if want := (api.QueueConfig{Name: x.Name, Most: maxQueue}); x != want {
			t.Errorf("%+v, want %+v", x, want)
		}
	}
	if got := fmt.Sprint(r.s.Bindings()); got != "[{a.#.b sub-2} {a.#.b sub-4}]" {
		t.Error(got)
	}
	p.detaches(a)
	r.queues("q", "sub-2", "sub-4", "tmp-3")
	other.detaches(d)
	r.queues("q", "sub-2", "tmp-3")
	if got := fmt.Sprint(r.s.Bindings()); got != "[{a.#.b sub-2}]" {
		t.Error(got)
	}
	p.receiver("a", "topic/x")
	other.receiver("d", "", dynamic)
	r.queues("q", "sub-2", "sub-5", "tmp-3", "tmp-6")
	p.detaches(b)
	other.detaches(c)
	r.queues("q", "sub-5", "tmp-6")
	// All links to one: those that didn't make it don't delete it.
	e := other.receiver("e", "queue/sub-5")
	f := p.sender("f", "queue/tmp-6")
	other.detaches(e)
	p.detaches(f)
	r.queues("q", "sub-5", "tmp-6")
	if s := r.behindFall(); len(s.Queues()) != 1 || len(s.Bindings()) != 0 {
		t.Errorf("behind a fall: %s", stored(s))
	}
}

// P23.6: a private queue that the store refuses: the link is refused, nothing is left of it, and its number is used up.
func TestPrivateQueueIsRefused(t *testing.T) {
	r := made(t, declare(passing("tmp-1", 9)), declare(passing("sub-3", 9)), put("sub-3", entry(1, 4, text("x", 4))))
	p := r.join()
	tmp, sub := receives("r", "", dynamic), receives("r", "topic/a")
	refusedOnce := func(a api.Perform) {
		t.Helper()
		before := r.all()
		p.attaches(a, "refused #", "detach # resource-limit-exceeded")
		if after := r.all(); after != before {
			t.Fatalf("%s\nbefore: %s", after, before)
		}
	}
	refusedOnce(tmp) // tmp-1 is there
	h := p.receiver("r", "", dynamic)
	r.queues("sub-3", "tmp-1", "tmp-2")
	p.detaches(h)
	refusedOnce(sub) // sub-3 is there
	r.lies("sub-3", "1/4 x")
	h = p.receiver("r", "topic/a")
	r.queues("sub-3", "sub-4", "tmp-1")
	p.detaches(h)
	// As many queues as may be.
	for i := range maxQueues - 2 {
		r.apply(declare(passing(fmt.Sprint("q", i), 1)))
	}
	refusedOnce(tmp) // 5
	refusedOnce(sub) // 6
	r.apply(gone("q0"))
	h = p.receiver("r", "topic/a")
	if l := r.s.Queues(); l[len(l)-2].Name != "sub-7" {
		t.Errorf("%v", l)
	}
	refusedOnce(receives("s", "topic/a")) // 8
	p.detaches(h)
	// As many bindings as may be: a queue alone may be, one with a binding is neither.
	for i := range maxBinds {
		r.apply(bind(fmt.Sprint("x", i), "q1"))
	}
	refusedOnce(sub) // 9
	p.receiver("r", "", dynamic)
	if l := r.s.Queues(); l[len(l)-1].Name != "tmp-10" {
		t.Errorf("%v", l)
	}
}

// narrow is a connection whose peer takes frames of 512 bytes, and writes longer ones.
func narrow(own, peer *api.ConnConfig) { own.MaxFrame, peer.MaxFrame = 8192, 512 }

// P23.6: an answer that the end refuses, as it would be too long: nothing is answered, and a private queue goes again. The link may be attached anew.
func TestAnswerTooLong(t *testing.T) {
	caps := func(n int) []string { return slices.Repeat([]string{strings.Repeat("c", 60)}, n) }
	long := func(address string, dynamic bool) api.Terminus {
		return api.Terminus{Kind: api.KSource, Address: address, Dynamic: dynamic, Caps: caps(9)}
	}
	to := func(a api.Perform, t api.Terminus) api.Perform {
		a.Target = t
		return a
	}
	for i, a := range []api.Perform{
		sends("l", "queue/q", func(p *api.Perform) { p.Source = long("x", false) }),
		sends("l", "topic/a", func(p *api.Perform) { p.Source = long("x", false) }),
		sends("l", "txns", func(p *api.Perform) { p.Source = long("x", false) }),
		to(sends("l", ""), api.Terminus{Kind: api.KCoordinator, Caps: caps(9)}),
		receives("l", "", func(p *api.Perform) { p.Source = long("queue/q", false) }),
		receives("l", "", func(p *api.Perform) { p.Source = long("topic/a", false) }),
		receives("l", "", func(p *api.Perform) { p.Source = long("", true) }),
		receives("l", "", func(p *api.Perform) { p.Source = long("queue/none", true) }),
		to(receives("l", "queue/q"), api.Terminus{Kind: api.KTarget, Caps: caps(9)}),
	} {
		r := made(t, declare(passing("q", 9)))
		p := r.join(narrow)
		before := r.all()
		h := p.attachesOnly(0, a)
		p.wants()
		if after := r.all(); after != before {
			t.Fatalf("%d: %s\nbefore: %s", i, after, before)
		}
		// The peer gives it up: nothing happens, but that it is gone.
		p.feeds(framed(0, api.Perform{Kind: api.KDetach, Handle: h, Closed: true}))
		if out := r.b.Out(p.n); len(out) > 0 || r.all() != before {
			t.Fatalf("%d: %s\n%s", i, lines(out), r.all())
		}
		h = p.attachesOnly(0, sends("l2", "queue/q"))
		p.wants(fmt.Sprintf("attach 0.%d", h), fmt.Sprintf("flow 0.%d 16", h))
		h = p.attachesOnly(0, receives("l3", "", dynamic))
		p.wants(fmt.Sprintf("attach 0.%d", h))
		last := r.s.Queues()[1].Name // a number was used up, where the store was asked
		if want := map[bool]string{true: "tmp-2", false: "tmp-1"}[i >= 5 && i <= 7]; last != want {
			t.Errorf("%d: %s, want %s", i, last, want)
		}
		p.credits(h, 1)
		s := p.sender("s", "queue/"+last)
		p.sendsOnly(s, "t", text("x", 4), true, none)
		p.wants(fmt.Sprintf("got 0.%d #0 x", h))
		if l := lyingAll(r.s.Entries(last)); !slices.Equal(l, []string{"1/4 x held 1"}) { // the first holder
			t.Errorf("%d: %q", i, l)
		}
	}
}

// P23.6: where no handle is free the end refuses to attach: nothing is answered, neither way, also where the link is to be refused.
func TestNoHandleIsFree(t *testing.T) {
	r := made(t, declare(passing("q", 9)))
	r.b.Join(server())
	begin := with(api.KBegin, func(p *api.Perform) { p.InWin, p.OutWin, p.HandleMax = 9, 9, 0 })
	open := with(api.KOpen, func(p *api.Perform) { p.Id = "c" })
	wantErrno(t, "Feed", r.b.Feed(1, slices.Concat(mainHeader, framed(0, open), framed(2, begin))), api.OK)
	if out := kinds(r.b.Out(1)); out != "open begin" {
		t.Fatal(out)
	}
	at := func(a api.Perform, handle int) []byte {
		a.Handle = handle
		return framed(2, a)
	}
	wantErrno(t, "Feed", r.b.Feed(1, at(receives("r", "queue/q"), 0)), api.OK)
	if out := kinds(r.b.Out(1)); out != "attach" {
		t.Fatal(out)
	}
	before := r.all()
	for i, a := range []api.Perform{sends("a", "queue/q"), sends("b", "queue/none"), sends("c", "txns"), sends("d", ""), receives("e", "queue/q"), receives("f", "queue/none"), receives("g", "", dynamic), receives("h", "topic/a.*")} {
		wantErrno(t, "Feed", r.b.Feed(1, at(a, i+1)), api.OK)
		if out := r.b.Out(1); len(out) > 0 || r.all() != before {
			t.Errorf("%d: %s\n%s\nbefore: %s", i, lines(out), r.all(), before)
		}
	}
	// The first one goes: its handle is free again.
	wantErrno(t, "Feed", r.b.Feed(1, framed(2, api.Perform{Kind: api.KDetach, Handle: 0})), api.OK)
	wantErrno(t, "Feed", r.b.Feed(1, at(receives("i", "", dynamic), 0)), api.OK)
	if out := kinds(r.b.Out(1)); out != "detach attach" {
		t.Error(out)
	}
	r.queues("q", "tmp-3")
}

// P23.6: as many links as may be, in as many sessions; each with a holder of its own.
func TestManyLinks(t *testing.T) {
	r := made(t, declare(passing("q", 4*maxLinks)))
	p := r.join(func(own, peer *api.ConnConfig) { own.Window, peer.Window = 65535, 65535 })
	for channel := 1; channel < 4; channel++ {
		p.begin(fmt.Sprint("begin ", channel))
	}
	for channel := range 4 {
		for h := range maxLinks {
			if got := p.attachesAt(channel, receives(fmt.Sprint("l", h), "queue/q"), "attach #"); got != h {
				t.Fatalf("handle %d", got)
			}
			wantErrno(t, "Credit", p.c.Credit(channel, h, 1, false), api.OK)
		}
	}
	p.wants()
	for i := range 4 * maxLinks {
		r.apply(put("q", entry(i+1, 4, text("x", 4))))
	}
	wantErrno(t, "Tick", r.b.Tick(0), api.OK)
	for i, e := range r.s.Entries("q") {
		if e.Holder != i+1 {
			t.Fatalf("%s, want the holder %d", lying(e), i+1)
		}
	}
}

// P23.6: one name may stand for two links in a session, one each way; the same name in the same role comes again behind its Detach.
func TestNames(t *testing.T) {
	r := made(t, declare(passing("q", 9)))
	p := r.join()
	s, l := p.sender("l", "queue/q"), p.receiver("l", "queue/q")
	p.sends(s, "a", text("a", 4), accepted)
	for range 3 {
		p.detaches(l)
		l = p.receiver("l", "queue/q")
		p.credits(l, 1)
		p.wants(fmt.Sprintf("got 0.%d #0 a", l))
	}
	r.lies("q", "1/4 a held 4")
	p.detaches(s)
	for range 3 {
		p.attaches(sends("l", "queue/none"), "refused #", "detach # not-found")
	}
	s = p.sender("l", "queue/q")
	p.sends(s, "b", text("b", 4), accepted)
}
