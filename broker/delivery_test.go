package broker_test

import (
	"bytes"
	"fmt"
	"slices"
	"strings"
	"testing"

	"longshore/api"
	"longshore/message"
	"longshore/sample"
)

// wantEntry wants that a queue has this message as its only one, with all its fields.
func (r *rig) wantEntry(queue string, want api.Entry) {
	r.t.Helper()
	l := r.s.Entries(queue)
	if len(l) != 1 || lying(l[0]) != lying(want) || !bytes.Equal(l[0].Data, want.Data) {
		r.t.Fatalf("%q, want %s", lyingAll(l), lying(want))
	}
}

// P23.7: an entry has what the header says, in bounds; its Data are the bytes that came.
func TestEntries(t *testing.T) {
	header := func(turn func(h *api.Header)) []byte {
		return text("x", 4, func(m *api.Message) { turn(&m.Header) })
	}
	rich := text("x", 7, durable, counted(3), lives(50), coloured("red"), func(m *api.Message) {
		m.Header.First = true
		m.DelAnn, m.MsgAnn, m.Footer = sample.Pairs(sample.Text(api.Symbol, "d"), sample.Num(api.Uint, 1)), sample.Pairs(sample.Text(api.Symbol, "m"), sample.Num(api.Uint, 2)), sample.Pairs(sample.Text(api.Symbol, "f"), sample.Num(api.Uint, 3))
		m.Properties.Has, m.Properties.Subject = true, "subject"
	})
	data, sequences := message.Blank(), message.Blank()
	data.Data = []string{"a", "", "b"}
	sequences.Body, sequences.Data, sequences.Sequences = api.BodySequence, nil, []api.Value{sample.List(sample.Num(api.Uint, 1)), sample.List()}
	for _, c := range []struct {
		b    []byte
		want api.Entry
	}{
		{plainly("x"), api.Entry{Priority: 4, Expiry: -1}},
		{header(func(h *api.Header) {}), api.Entry{Priority: 4, Expiry: -1}},
		{header(func(h *api.Header) { h.Priority = 0 }), api.Entry{Expiry: -1}},
		{header(func(h *api.Header) { h.Priority = 8 }), api.Entry{Priority: 8, Expiry: -1}},
		{header(func(h *api.Header) { h.Priority = 9 }), api.Entry{Priority: 9, Expiry: -1}},
		{header(func(h *api.Header) { h.Priority = 10 }), api.Entry{Priority: 9, Expiry: -1}},
		{header(func(h *api.Header) { h.Priority = 255 }), api.Entry{Priority: 9, Expiry: -1}},
		{header(func(h *api.Header) { h.Durable = true }), api.Entry{Priority: 4, Expiry: -1, Durable: true}},
		{header(func(h *api.Header) { h.First = true }), api.Entry{Priority: 4, Expiry: -1}},
		{header(func(h *api.Header) { h.Count = 1 }), api.Entry{Priority: 4, Expiry: -1, Count: 1}},
		{header(func(h *api.Header) { h.Count = maxWord }), api.Entry{Priority: 4, Expiry: -1, Count: maxWord}},
		{header(func(h *api.Header) { h.Ttl = 0 }), api.Entry{Priority: 4, Expiry: 1000}},
		{header(func(h *api.Header) { h.Ttl = 1 }), api.Entry{Priority: 4, Expiry: 1001}},
		{header(func(h *api.Header) { h.Ttl = maxWord }), api.Entry{Priority: 4, Expiry: 1000 + maxWord}},
		{rich, api.Entry{Priority: 7, Expiry: 1050, Durable: true, Count: 3}},
		{encoded(data), api.Entry{Priority: 4, Expiry: -1}},
		{encoded(sequences), api.Entry{Priority: 4, Expiry: -1}},
		{[]byte("\x00\xa3\x15longshore:data:binary\xb0\x00\x00\x00\x01x"), api.Entry{Priority: 4, Expiry: -1}}, // not in the shortest form
	} {
		for _, settled := range []bool{false, true} {
			for _, address := range []string{"queue/q", "topic/a.b"} {
				r := made(t, declare(lasting("q", 2)), bind("a.*", "q"), declare(passing("other", 9)), put("other", entry(1, 4, nil)))
				p := r.join()
				wantErrno(t, "Tick", r.b.Tick(1000), api.OK)
				s := p.sender("s", address)
				if settled {
					p.sendsSettled(s, "t", c.b, none)
				} else {
					p.sends(s, "t", c.b, accepted)
				}
				c.want.Seq, c.want.Data = 2, c.b
				r.wantEntry("q", c.want)
				r.lies("other", "1/4 ")
			}
		}
	}
}

// noMessages are bytes that are no message.
func noMessages() [][]byte {
	return [][]byte{nil, {}, {0}, {0x40}, []byte("hello"), bytes.Repeat([]byte{0}, 3000), text("x", 4)[:9], append(text("x", 4), 0), {0, 0x53, 0x70, 0x45}, slices.Concat(text("x", 4), text("x", 4)), {0, 0x53, 0x24, 0x45}}
}

// P23.7: what is no message is rejected with decode-error, and laid nowhere; also one that is settled, of which nobody is told.
func TestNoMessage(t *testing.T) {
	for _, b := range noMessages() {
		for _, address := range []string{"queue/q", "topic/a.b", "topic/nowhere"} {
			r := made(t, declare(lasting("q", 2)), bind("a.*", "q"))
			p := r.join()
			s := p.sender("s", address)
			before := r.all()
			p.sends(s, "t", b, rejected("decode-error"))
			p.sendsSettled(s, "t", b, none)
			p.sendsAs(s, "t", b, received, rejected("decode-error"))
			p.sendsAs(s, "t", b, within("t1"), within("t1", rejected("decode-error")))
			p.sendsSettled(s, "t", b, within("t1"))
			if after := r.all(); after != before {
				t.Fatalf("%x: %s\nbefore: %s", b, after, before)
			}
			p.sends(s, "t", text("x", 4), accepted)
		}
	}
}

// P23.7: the state of a delivery that is not transactional is not looked at.
func TestStatesOfDeliveries(t *testing.T) {
	for _, s := range []api.State{accepted, released, failed, received, rejected("no"), {Kind: api.KDeclared, Txn: "t1"}} {
		r := made(t, declare(lasting("q", 1)))
		p := r.join()
		l := p.sender("s", "queue/q")
		p.sendsAs(l, "t", text("x", 4), s, accepted)
		p.sendsAs(l, "u", text("y", 4), s, rejected("resource-limit-exceeded"))
		r.lies("q", "1/4 x")
	}
}

// P23.7: a full queue takes nothing, held messages counted; what is settled is lost then, and nobody is told.
func TestFullQueue(t *testing.T) {
	r := made(t, declare(lasting("q", 2)), declare(dying(lasting("r", 1), "q", 1)))
	p := r.join()
	s, l := p.sender("s", "queue/q"), p.receiver("r", "queue/q")
	p.sends(s, "a", text("a", 4, durable), accepted)
	p.sends(s, "b", text("b", 4, durable), accepted)
	p.credits(l, 1)
	p.wants("got 0.1 #0 a")
	before := stored(r.s) + disked(r.d)
	p.sends(s, "c", text("c", 9, durable), rejected("resource-limit-exceeded"))
	p.sendsSettled(s, "d", text("d", 9, durable), none)
	if after := stored(r.s) + disked(r.d); after != before {
		t.Fatalf("%s\nbefore: %s", after, before)
	}
	p.says(l, 0, accepted, true)
	p.wants()
	p.sendsSettled(s, "e", text("e", 4, durable), none)
	r.lies("q", "2/4 b durable", "3/4 e durable")
}

// P23.7: a queue that is not there any more takes nothing.
func TestQueueIsGone(t *testing.T) {
	r := made(t)
	p := r.join()
	l := p.receiver("r", "", dynamic)
	s := p.sender("s", "queue/tmp-1")
	p.sends(s, "a", text("a", 4), accepted)
	p.detaches(l)
	p.sends(s, "b", text("b", 4), rejected("resource-limit-exceeded"))
	p.sendsSettled(s, "c", text("c", 4), none)
	r.apply(declare(passing("tmp-1", 9)))
	p.sends(s, "d", text("d", 4), accepted)
	r.lies("tmp-1", "2/4 d")
}

// P23.7: a topic leads to the queues that the store says now: each gets the message, by rising names, under numbers one behind the other; all of them, or none.
func TestTopics(t *testing.T) {
	r := made(t, declare(lasting("c", 3)), declare(passing("a", 9)), declare(lasting("b", 9)), declare(passing("x", 9)), bind("t.*", "c"), bind("t.#", "c"), bind("#", "a"), bind("t.u", "b"), bind("u", "x"))
	p := r.join()
	s := p.sender("s", "topic/t.u")
	p.sends(s, "1", text("one", 6, durable, lives(9), counted(2)), accepted)
	r.lies("a", "1/6 one count 2 durable failed 2 until 9")
	r.lies("b", "2/6 one count 2 durable failed 2 until 9")
	r.lies("c", "3/6 one count 2 durable failed 2 until 9")
	r.lies("x")
	// A binding more, one less, a queue that goes.
	r.apply(bind("*.u", "x"), api.Op{Kind: 4, Pattern: "#", Queue: "a"})
	p.sends(s, "2", plainly("two"), accepted)
	r.lies("b", "2/6 one count 2 durable failed 2 until 9", "4/4 two")
	r.lies("c", "3/6 one count 2 durable failed 2 until 9", "5/4 two")
	r.lies("x", "6/4 two")
	r.apply(gone("b"))
	p.sendsSettled(s, "3", text("three", 4), none)
	r.lies("c", "3/6 one count 2 durable failed 2 until 9", "5/4 two", "7/4 three")
	r.lies("x", "6/4 two", "8/4 three")
	// One is full: none gets it.
	before := stored(r.s) + disked(r.d)
	p.sends(s, "4", text("four", 4), rejected("resource-limit-exceeded"))
	p.sendsSettled(s, "5", text("five", 4), none)
	if after := stored(r.s) + disked(r.d); after != before {
		t.Fatalf("%s\nbefore: %s", after, before)
	}
	r.lies("a", "1/6 one count 2 durable failed 2 until 9")
	// None at all: it is accepted, and nothing is done.
	nowhere := p.sender("n", "topic/nowhere")
	p.sends(nowhere, "6", text("six", 4, durable), accepted)
	p.sendsSettled(nowhere, "7", text("seven", 4), none)
	if after := stored(r.s) + disked(r.d); after != before {
		t.Fatalf("%s\nbefore: %s", after, before)
	}
	// What is durable is so in the durable queues.
	if got := lyingAll(r.behindFall().Entries("c")); !slices.Equal(got, []string{"3/6 one count 2 durable failed 2 until 9"}) {
		t.Errorf("behind a fall: %q", got)
	}
}

// P23.7: a link's credit is given anew behind the delivery with which it is 8, whatever became of that, on each kind of link; and all that came is taken.
func TestCreditAnew(t *testing.T) {
	for _, c := range []struct {
		address string
		data    []byte
	}{{"queue/q", text("x", 4)}, {"queue/full", text("x", 4)}, {"queue/q", []byte("none")}, {"topic/a", text("x", 4)}, {"topic/nowhere", text("x", 4)}, {"txns", declaring()}, {"txns", nil}, {"queue/q", text(strings.Repeat("x", 20000), 4)}} {
		for _, settled := range []bool{false, true} {
			r := made(t, declare(passing("q", 99)), declare(passing("full", 1)), bind("a", "q"))
			p := r.join(func(own, peer *api.ConnConfig) { own.Window, peer.Window = 4, 4 })
			s := p.sender("s", c.address)
			for i := range 50 {
				p.sendsOnly(s, fmt.Sprint(i), c.data, settled, none)
				p.move()
				p.seen = slices.DeleteFunc(p.seen, func(s string) bool { return strings.HasPrefix(s, "state") })
				if i%8 == 7 {
					p.wantsSeen(fmt.Sprintf("flow 0.%d 16", s))
				} else {
					p.wantsSeen()
				}
			}
		}
	}
	// Sent at one stroke, as many as there is credit.
	r := made(t, declare(passing("q", 99)))
	p := r.join()
	s := p.sender("s", "queue/q")
	for i := range 16 {
		p.sendsOnly(s, fmt.Sprint(i), text("x", 4), true, none)
	}
	if _, e := p.c.Send(0, s, "more", text("x", 4), true, none); e != api.ErrCredit {
		t.Errorf("one more than the credit: %d", e)
	}
	p.wants("flow 0.0 16", "flow 0.0 16")
	if n := len(r.s.Entries("q")); n != 16 {
		t.Errorf("%d came", n)
	}
}

// P23.7: a delivery of many frames, the longest that may be; one that is longer than a message may be makes the link fail.
func TestLongDeliveries(t *testing.T) {
	most := text("", 4)
	body := strings.Repeat("x", maxMessage-len(most)-3)
	r := made(t, declare(lasting("q", 9)))
	p := r.join(func(own, peer *api.ConnConfig) { own.Window, own.MaxFrame, peer.MaxFrame = 2, 65536, 65536 })
	s := p.sender("s", "queue/q")
	b := text(body, 4)
	if len(b) != maxMessage {
		t.Fatal(len(b))
	}
	p.sends(s, "t", b, accepted)
	r.wantEntry("q", api.Entry{Seq: 1, Priority: 4, Expiry: -1, Data: b})
	l := p.receiver("r", "queue/q")
	p.credits(l, 1)
	p.wants(fmt.Sprintf("got 0.%d #0 %s", l, said(b)))
}

// P23.7: links of one queue lay into it one behind the other, also links of several connections and sessions; one that went lays nothing.
func TestManySenders(t *testing.T) {
	r := made(t, declare(passing("q", 99)))
	var peers []*peer
	var links []int
	for range 3 {
		p := r.join()
		peers, links = append(peers, p), append(links, p.sender("s", "queue/q"))
	}
	var want []string
	for i := range 12 {
		p := peers[i%3]
		p.sends(links[i%3], fmt.Sprint(i), text(fmt.Sprint(i), 4), accepted)
		want = append(want, fmt.Sprintf("%d/4 %d", i+1, i))
	}
	peers[0].detaches(links[0])
	peers[1].begin("begin 1")
	peers[1].attachesAt(1, sends("s", "queue/q"), "attach #", "flow # 16")
	_, e := peers[1].c.Send(1, 0, "t", text("x", 4), false, none)
	wantErrno(t, "Send", e, api.OK)
	peers[1].wants(`state 1.0 "t" { Kind:36 } settled`)
	wantErrno(t, "End", peers[1].c.End(0, api.Fault{}), api.OK)
	r.lies("q", append(want, "13/4 x")...)
}
