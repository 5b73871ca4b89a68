package broker_test

import (
	"fmt"
	"slices"
	"strings"
	"testing"

	"longshore/api"
)

// filled is a rig with the queue q, in which lie messages of these priorities, called a, b, c and so on.
func filled(t *testing.T, priorities ...int) *rig {
	t.Helper()
	r := made(t, declare(dying(passing("q", 99), "d", 0)), declare(passing("d", 99)))
	for i, priority := range priorities {
		r.apply(put("q", entry(i+1, priority, text(letter(i), priority))))
	}
	return r
}

func letter(i int) string { return string(rune('a' + i)) }

// P23.9: a link gets the first one by priority and age, as long as it has credit; under tags that count its deliveries.
func TestOrder(t *testing.T) {
	r := filled(t, 4, 9, 4, 0, 9, 5)
	p := r.join()
	l := p.receiver("r", "queue/q")
	p.wants()
	p.credits(l, 1)
	p.wants("got 0.0 #0 b")
	p.credits(l, 3)
	p.wants("got 0.0 #1 e", "got 0.0 #2 f", "got 0.0 #3 a")
	p.credits(l, 0)
	p.wants()
	p.says(l, 1, released, true)
	p.wants()
	p.credits(l, 9)
	p.wants("got 0.0 #4 e", "got 0.0 #5 c", "got 0.0 #6 d")
	p.says(l, 2, released, true)
	p.wants("got 0.0 #7 f") // to the same link
	// More than 256, so that the tag's other bytes are seen.
	for i := range 300 {
		p.says(l, 7+i, released, true)
		p.credits(l, 1)
		p.wants(fmt.Sprintf("got 0.0 #%d f", 8+i))
	}
	if len(r.s.Entries("q")) != 6 {
		t.Error(stored(r.s))
	}
}

// P23.9: connection by connection, channel by channel, handle by handle, each gets one in turn, as long as it has credit and there are some.
func TestTurns(t *testing.T) {
	r := made(t, declare(passing("q", 99)))
	type link struct {
		p               *peer
		channel, handle int
		credit          int
	}
	var links []link
	peers := []*peer{r.join(), r.join()}
	for _, p := range peers {
		p.begin("begin 1")
	}
	// Attached in another order than they are served in.
	for i, credit := range []int{3, 1, 0, 2, 5, 1, 4, 2} {
		p, channel := peers[1-i%2], 1-i/2%2
		links = append(links, link{p, channel, p.attachesAt(channel, receives(fmt.Sprint("l", i), "queue/q"), "attach #"), credit})
	}
	for _, x := range links {
		wantErrno(t, "Credit", x.p.c.Credit(x.channel, x.handle, x.credit, false), api.OK)
	}
	r.move()
	for i := range 17 {
		r.apply(put("q", entry(i+1, 4, text(fmt.Sprint(i), 4))))
	}
	wantErrno(t, "Tick", r.b.Tick(0), api.OK)
	var want [2][]string
	for n, got := 0, map[link]int{}; n < 17; {
		for pass := range 8 {
			for _, x := range links {
				at := (x.p.n-1)*4 + x.channel*2 + x.handle
				if at == pass && got[x] < x.credit && n < 17 {
					want[x.p.n-1] = append(want[x.p.n-1], fmt.Sprintf("got %d.%d #%d %d", x.channel, x.handle, got[x], n))
					got[x]++
					n++
				}
			}
		}
	}
	r.move()
	peers[0].wantsSeen(want[0]...)
	peers[1].wantsSeen(want[1]...)
	for _, e := range r.s.Entries("q") {
		if e.Holder == 0 {
			t.Errorf("free: %s", lying(e))
		}
	}
}

// P23.9: each link has its own queue: what lies in the others is not for it.
func TestQueuesApart(t *testing.T) {
	r := made(t, declare(passing("q", 9)), declare(passing("r", 9)), put("q", entry(1, 4, text("a", 4))), put("r", entry(2, 9, text("b", 4))), put("q", entry(3, 4, text("c", 4))))
	p := r.join()
	q, l := p.receiver("q", "queue/q"), p.receiver("r", "queue/r")
	p.credits(l, 9)
	p.wants("got 0.1 #0 b")
	p.credits(q, 9)
	p.wants("got 0.0 #0 a", "got 0.0 #1 c")
}

// P23.9: of a link with a filter only what fits goes out, what is no message never; without one all does.
func TestFilters(t *testing.T) {
	r := made(t, declare(passing("q", 99)))
	for i, b := range [][]byte{text("a", 4, coloured("red")), []byte("no message"), text("b", 9, coloured("blue")), plainly("c"), text("d", 7, coloured("red"), durable), nil, text("e", 3)} {
		r.apply(put("q", entry(i+1, []int{4, 5, 9, 4, 7, 6, 3}[i], b)))
	}
	p := r.join()
	for i, c := range []struct {
		filter string
		want   []string
	}{
		{"colour = 'red'", []string{"d", "a"}},
		{"colour is null", []string{"c", "e"}},
		{"not colour = 'red'", []string{"b"}},
		{"priority > 3 and (colour <> 'blue' or colour is null)", []string{"d", "a", "c"}},
		{"durable", []string{"d"}},
		{"priority", nil},
		{"1 = 1", []string{"b", "d", "a", "c", "e"}},
		{"false", nil},
		{"", []string{"b", "d", "", "6e6f206d657373616765", "a", "c", "e"}},
	} {
		for _, copies := range []bool{false, true} {
			turns := []func(p *api.Perform){filtered(c.filter)}
			want := slices.Clone(c.want)
			if copies {
				turns = append(turns, copying)
				slices.Sort(want) // by their numbers, as it happens
				if i == 8 {
					want = []string{"a", "6e6f206d657373616765", "b", "c", "d", "", "e"}
				}
			}
			l := p.attachesOnly(0, receives("r", "queue/q", turns...))
			p.wants(fmt.Sprintf("attach 0.%d", l))
			p.credits(l, 99)
			for k := range want {
				want[k] = fmt.Sprintf("got 0.%d #%d %s", l, k, want[k])
			}
			p.wants(want...)
			p.detaches(l)
		}
	}
	// What comes later is asked likewise; the filter goes by the message that came, not by what has become of it.
	l := p.receiver("r", "queue/q", filtered("count = 0 and priority = 4 and colour = 'red'"))
	p.credits(l, 1)
	p.wants("got 0.0 #0 a")
	p.says(0, 0, failed, true)
	p.credits(l, 1)
	p.wants("got 0.0 #1 a count 1")
}

// P23.9: a link that copies is given what is free, by rising numbers, each once; it stays there. One that another link holds meanwhile is passed over, for good.
func TestCopies(t *testing.T) {
	r := filled(t, 4, 9, 4, 0)
	p, other := r.join(), r.join()
	l := p.receiver("r", "queue/q")
	p.credits(l, 1)
	p.wants("got 0.0 #0 b")
	k := other.receiver("c", "queue/q", copying)
	other.credits(k, 2)
	other.wants("got 0.0 #0 a", "got 0.0 #1 c")
	r.lies("q", "2/9 b held 1", "1/4 a", "3/4 c", "4/0 d")
	p.says(l, 0, released, true)
	other.credits(k, 9)
	other.wants("got 0.0 #2 d")
	s := other.sender("s", "queue/q")
	other.sendsOnly(s, "e", text("e", 9), true, none)
	other.wants("got 0.0 #3 e")
	p.credits(l, 9)
	p.wants("got 0.0 #1 b", "got 0.0 #2 e", "got 0.0 #3 a", "got 0.0 #4 c", "got 0.0 #5 d")
	r.lies("q", "2/9 b held 1", "5/9 e held 1", "1/4 a held 1", "3/4 c held 1", "4/0 d held 1")
}

// P23.9: several links that copy one queue each get all; one of them settled.
func TestManyCopies(t *testing.T) {
	r := filled(t, 4, 9)
	p := r.join()
	for i, turns := range [][]func(p *api.Perform){{copying}, {copying, settling}, {copying, filtered("priority > 5")}, {copying}} {
		l := p.receiver(fmt.Sprint("c", i), "queue/q", turns...)
		p.credits(l, 9)
		a, b := fmt.Sprintf("got 0.%d #0 a", l), fmt.Sprintf("got 0.%d #1 b", l)
		switch i {
		case 1:
			p.wants(a+" settled", b+" settled")
		case 2:
			p.wants(fmt.Sprintf("got 0.%d #0 b", l))
		default:
			p.wants(a, b)
		}
		r.lies("q", "2/9 b", "1/4 a")
	}
}

// P23.9: what is sent settled is done at once, on a link whose sender settles, and on no other one.
func TestSentSettled(t *testing.T) {
	for mode, want := range []string{"got 0.0 #0 a", "got 0.0 #0 a settled", "got 0.0 #0 a"} {
		r := filled(t, 4, 4)
		p := r.join()
		l := p.receiver("r", "queue/q", func(p *api.Perform) { p.SndMode = mode })
		p.credits(l, 1)
		p.wants(want)
		if mode == api.SndSettled {
			r.lies("q", "2/4 b")
		} else {
			r.lies("q", "1/4 a held 1", "2/4 b")
		}
		p.detaches(l)
		p.credits(p.receiver("r", "queue/q"), 1)
		if mode == api.SndSettled {
			p.wants("got 0.0 #0 b")
		} else {
			p.wants("got 0.0 #0 a")
		}
	}
}

var great = strings.Repeat("x", 300)

// mixed is a rig with messages in q of which a, c, e and f are great; the links below that take 200 bytes at most are refused these by the end.
func mixed(t *testing.T, letters string) *rig {
	t.Helper()
	r := filled(t)
	for i, c := range letters {
		s := string(c)
		if strings.Contains("acef", s) {
			s = great + s
		}
		r.apply(put("q", entry(i+1, 4, text(s, 4))))
	}
	return r
}

// greatly is how a great message lies in a queue.
func greatly(seq int, s string) string {
	return fmt.Sprintf("%d/4 %s", seq, said(text(great+s, 4)))
}

// P23.9: what the end refuses to send is buried; it is no delivery of the link, and uses up no credit. So it is with a link that settles.
func TestRefusedByTheEnd(t *testing.T) {
	r := mixed(t, "abcd")
	p := r.join()
	p.credits(p.receiver("r", "queue/q", atMost(200)), 2)
	p.wants("got 0.0 #0 b", "got 0.0 #1 d")
	r.lies("q", "2/4 b held 1", "4/4 d held 1")
	r.lies("d", greatly(5, "a"), greatly(6, "c"))
	r = mixed(t, "abcd")
	p = r.join()
	p.credits(p.receiver("r", "queue/q", settling, atMost(200)), 2)
	p.wants("got 0.0 #0 b settled", "got 0.0 #1 d settled")
	r.lies("q")
	r.lies("d", greatly(5, "a"), greatly(6, "c"))
	// Where the queue has no dead ones it is gone.
	r = made(t, declare(passing("q", 9)), put("q", entry(1, 4, text(great, 4))))
	p = r.join()
	p.credits(p.receiver("r", "queue/q", atMost(200)), 2)
	p.wants()
	r.queues("q")
	r.lies("q")
}

// P23.9: what the end refuses was the link's turn: the others come ahead of its next message.
func TestRefusedIsATurn(t *testing.T) {
	r := mixed(t, "")
	p := r.join()
	l, k := p.receiver("r", "queue/q", atMost(200)), p.receiver("s", "queue/q")
	p.credits(l, 9)
	p.credits(k, 9)
	p.wants()
	for i, s := range []string{great + "a", "b", great + "c", "d", "e"} {
		r.apply(put("q", entry(i+1, 4, text(s, 4))))
	}
	wantErrno(t, "Tick", r.b.Tick(0), api.OK)
	p.wants("got 0.1 #0 b", "got 0.1 #1 d", "got 0.0 #0 e")
	r.lies("d", greatly(6, "a"), greatly(7, "c"))
}

// P23.9: what the end refuses on a link that copies stays as it is; it was given to the link, and is not given again. So it is with one that settles.
func TestRefusedCopies(t *testing.T) {
	for _, turns := range [][]func(p *api.Perform){{copying, atMost(200)}, {copying, settling, atMost(200)}} {
		r := mixed(t, "abcde")
		p := r.join()
		l := p.receiver("r", "queue/q", turns...)
		before := stored(r.s)
		p.credits(l, 9)
		p.move()
		if got := strings.ReplaceAll(strings.Join(p.seen, "; "), " settled", ""); got != "got 0.0 #0 b; got 0.0 #1 d" {
			t.Error(got)
		}
		if after := stored(r.s); after != before {
			t.Errorf("%s\nbefore: %s", after, before)
		}
		p.seen = nil
		p.credits(l, 20)
		p.wants()
	}
}

// P23.9: what was buried in a serving is not given in it, neither to a link that moves nor to one that copies; it is in the next one. So dead ones that go to and fro have an end.
func TestBuriedWhileServed(t *testing.T) {
	b := text(great, 4)
	what := said(b)
	r := made(t, declare(dying(passing("q", 9), "d", 0)), declare(dying(passing("d", 9), "q", 0)))
	p := r.join()
	p.credits(p.receiver("a", "queue/q", atMost(200)), 9)
	p.credits(p.receiver("b", "queue/d", atMost(200)), 9)
	p.wants()
	r.apply(put("q", entry(1, 4, b)))
	for i := range 6 {
		r.lies([]string{"q", "d"}[i%2], fmt.Sprintf("%d/4 %s", i+1, what))
		wantErrno(t, "Tick", r.b.Tick(0), api.OK)
		p.wants()
	}
	r.lies("q", "7/4 "+what)
	// Links to the dead ones, that would take it, are given it in the next serving.
	for _, turn := range []func(p *api.Perform){copying, settling, func(p *api.Perform) {}} {
		r = made(t, declare(dying(passing("q", 9), "d", 0)), declare(passing("d", 9)))
		p = r.join()
		l, k := p.receiver("r", "queue/q", atMost(200)), p.receiver("d", "queue/d", turn)
		p.credits(l, 9)
		p.credits(k, 9)
		p.wants()
		r.apply(put("q", entry(1, 4, b)), put("d", entry(2, 4, text("y", 4))), put("d", entry(3, 4, text("z", 4))))
		for _, want := range []string{"got 0.1 #0 y; got 0.1 #1 z", "got 0.1 #2 " + what, ""} {
			wantErrno(t, "Tick", r.b.Tick(0), api.OK)
			p.move()
			if got := strings.ReplaceAll(strings.Join(p.seen, "; "), " settled", ""); got != want {
				t.Errorf("%s, want %s", got, want)
			}
			p.seen = nil
		}
	}
}

// P23.9: what goes out is the message with its entry's count in the header; the very bytes, where there is nothing to say or it can't be said.
func TestAgain(t *testing.T) {
	greatest := text(strings.Repeat("x", maxMessage-20), 4)
	for i, c := range []struct {
		data  []byte
		count int
		want  []byte
	}{
		{text("x", 7, coloured("red")), 0, text("x", 7, coloured("red"))},
		{text("x", 7, coloured("red")), 3, text("x", 7, coloured("red"), counted(3))},
		{text("x", 7, counted(5)), 0, text("x", 7)},
		{plainly("x"), 0, plainly("x")},
		{plainly("x"), maxWord, text("x", 4, counted(maxWord))},
		{[]byte("no message"), 0, []byte("no message")},
		{[]byte("no message"), 9, []byte("no message")},
		{nil, 9, nil},
		{greatest, 0, greatest},
		{greatest, maxWord, greatest}, // it would be too long
	} {
		r := made(t, declare(passing("q", 9)))
		e := entry(1, 4, c.data)
		e.Count = c.count
		r.apply(put("q", e))
		p := r.join(func(own, peer *api.ConnConfig) { peer.MaxFrame = 65536 })
		p.credits(p.receiver("r", "queue/q"), 1)
		r.b.Feed(p.n, p.c.Out())
		l := p.c.Feed(r.b.Out(p.n))
		if len(l) != 1 || l[0].Kind != api.EvDelivery || string(l[0].Delivery.Data) != string(c.want) {
			t.Errorf("%d: %d events", i, len(l))
		}
		if got := l[0].Delivery; got.Settled || told(got.State) != "{ }" || got.Tag != numbered(0) || got.Format != 0 {
			t.Errorf("%d: %+v", i, got)
		}
	}
}

// P23.9: a link that is to be drained gets what there is; then its credit is given up, behind all that is served.
func TestDrained(t *testing.T) {
	drain := func(p *peer, l, credit int) {
		wantErrno(t, "Credit", p.c.Credit(0, l, credit, true), api.OK)
	}
	r := filled(t, 4, 4)
	p := r.join()
	l := p.receiver("r", "queue/q")
	drain(p, l, 7)
	p.wants("got 0.0 #0 a", "got 0.0 #1 b", "flow 0.0 0 count 7 drain")
	p.credits(l, 2)
	p.wants()
	drain(p, l, 1)
	p.wants("flow 0.0 0 count 8 drain")
	// With no more credit than there are messages nothing is given up.
	r = filled(t, 4, 4)
	p = r.join()
	l = p.receiver("r", "queue/q")
	drain(p, l, 2)
	p.wants("got 0.0 #0 a", "got 0.0 #1 b")
	wantErrno(t, "Tick", r.b.Tick(0), api.OK)
	p.wants()
	// Several: in their order, all behind the last message.
	r = filled(t, 4, 4, 4)
	p, other := r.join(), r.join()
	var links []int
	for i := range 3 {
		links = append(links, p.receiver(fmt.Sprint("r", i), "queue/q", filtered([]string{"priority > 5", "", "priority > 5"}[i])))
	}
	k := other.receiver("r", "queue/q")
	other.credits(k, 1)
	other.wants("got 0.0 #0 a")
	for i := range 3 {
		drain(p, links[2-i], 5)
	}
	b := p.c.Out()
	p.feeds(b)
	var order []string
	for _, q := range performs(r.b.Out(p.n)) {
		order = append(order, fmt.Sprintf("%d of %d", q.Kind, q.Handle))
	}
	if got := strings.Join(order, ", "); got != "19 of 2, 20 of 1, 20 of 1, 19 of 1, 19 of 0" {
		t.Error(got)
	}
	// A message that comes in the same call as it drains is sent first; one that comes later waits for credit.
	r = filled(t)
	p = r.join()
	l = p.receiver("r", "queue/q")
	s := p.sender("s", "queue/q")
	drain(p, l, 3)
	p.wants("flow 0.0 0 count 3 drain")
	p.sends(s, "a", text("a", 4), accepted)
	drain(p, l, 2)
	p.wants("got 0.0 #0 a", "flow 0.0 0 count 5 drain")
}

// P23.9: credit that is taken back is not used; a session's window bounds what goes out, not what is taken.
func TestWindowAndCredit(t *testing.T) {
	r := filled(t, 4, 4, 4, 4, 4)
	p := r.join(func(own, peer *api.ConnConfig) { peer.Window = 2 })
	l := p.receiver("r", "queue/q")
	p.credits(l, 4)
	p.feeds(p.c.Out())
	if out := kinds(r.b.Out(p.n)); out != "transfer transfer" {
		t.Error(out)
	}
	r.lies("q", "1/4 a held 1", "2/4 b held 1", "3/4 c held 1", "4/4 d held 1", "5/4 e")
	p.credits(l, 0)
	p.wants()
	r.lies("q", "1/4 a held 1", "2/4 b held 1", "3/4 c held 1", "4/4 d held 1", "5/4 e")
}
