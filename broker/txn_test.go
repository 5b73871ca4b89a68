package broker_test

import (
	"fmt"
	"testing"

	"longshore/api"
	"longshore/message"
	"longshore/sample"
)

func declared(id string) api.State { return api.State{Kind: api.KDeclared, Txn: id} }

// declares opens a transaction, and wants that it has that name; discharges ends one, and wants this to be told.
func (p *peer) declares(h int, id string) {
	p.t.Helper()
	p.sends(h, "declare", declaring(), declared(id))
}

func (p *peer) discharges(h int, id string, fail bool, want api.State) {
	p.t.Helper()
	p.sends(h, "discharge", discharging(id, fail), want)
}

// answers says what became of a delivery, not settled, and wants to be told that it is settled so.
func (p *peer) answers(h, tag int, s api.State) {
	p.t.Helper()
	p.says(h, tag, s, false)
	p.wants(fmt.Sprintf("state 0.%d #%d %s settled", h, tag, told(s)))
}

// P23.7: a link for transactions, to a coordinator or to txns: Declare, Discharge; nothing is seen of a transaction ahead of its end, and all at once then.
func TestTransactions(t *testing.T) {
	for _, turn := range []func(p *api.Perform){coordinated, func(p *api.Perform) {}} {
		r := made(t, declare(lasting("q", 9)), declare(dying(lasting("r", 9), "d", 2)), declare(lasting("d", 9)), bind("a.*", "q"), bind("#", "r"))
		for i := range 5 {
			r.apply(put("r", entry(i+1, 4, text(fmt.Sprint(i), 4, durable))))
		}
		p := r.join()
		x := p.sender("x", "txns", turn)
		q, topic, l := p.sender("q", "queue/q"), p.sender("topic", "topic/a.b"), p.receiver("r", "queue/r")
		p.credits(l, 5)
		p.wants("got 0.3 #0 0", "got 0.3 #1 1", "got 0.3 #2 2", "got 0.3 #3 3", "got 0.3 #4 4")
		p.declares(x, "t1")
		before := stored(r.s)
		p.sendsAs(q, "a", text("a", 4, durable, lives(5)), within("t1"), within("t1", accepted))
		p.sendsAs(topic, "b", text("b", 200), within("t1"), within("t1", accepted))
		p.sendsSettled(q, "c", text("c", 4), within("t1"))
		p.answers(l, 0, within("t1", accepted))
		p.answers(l, 1, within("t1", rejected("no")))
		p.answers(l, 2, within("t1", released))
		p.says(l, 3, within("t1", failed), true)
		p.answers(l, 4, within("t1", modified))
		if after := stored(r.s); after != before {
			t.Fatalf("%s\nbefore: %s", after, before)
		}
		p.discharges(x, "t1", false, accepted)
		r.lies("q", "7/9 b", "6/4 a durable until 5", "9/4 c")
		r.lies("r", "8/9 b", "3/4 2", "4/4 3 failed 1", "5/4 4")
		r.lies("d", "10/4 1")
		p.discharges(x, "t1", false, rejected("unknown-id"))
		p.discharges(x, "t1", true, rejected("unknown-id"))
	}
}

// P23.7: a transaction that is discharged with fail is not done: what was put is nowhere, what was done with is held still, and goes back with its link.
func TestTransactionFails(t *testing.T) {
	r := made(t, declare(lasting("q", 9)), put("q", entry(1, 4, text("x", 4))))
	p := r.join()
	x, s, l := p.sender("x", "txns"), p.sender("s", "queue/q"), p.receiver("r", "queue/q")
	p.credits(l, 1)
	p.wants("got 0.2 #0 x")
	p.declares(x, "t1")
	p.sendsAs(s, "a", text("a", 4), within("t1"), within("t1", accepted))
	p.answers(l, 0, within("t1", accepted))
	p.discharges(x, "t1", true, accepted)
	r.lies("q", "1/4 x held 1")
	p.detaches(l)
	r.lies("q", "1/4 x")
}

// P23.7: what a transaction does not take is rejected, those that were taken stay in it: an unknown one, another connection's, a queue that is gone, too many parts.
func TestTransactionRefuses(t *testing.T) {
	r := made(t, declare(passing("q", 4096)), declare(passing("r", 4096)), bind("a", "q"), bind("a", "r"))
	p, other := r.join(), r.join()
	x, s, topic := p.sender("x", "txns"), p.sender("s", "queue/q"), p.sender("topic", "topic/a")
	y, o := other.sender("y", "txns"), other.sender("o", "queue/q")
	p.declares(x, "t1")
	other.declares(y, "t2")
	for _, id := range []string{"t2", "t3", "T1", "t", "t11", "0123456789abcdef0123456789abcdef"} {
		p.sendsAs(s, "a", text("a", 4), within(id), within(id, rejected("not-found")))
		p.sendsAs(topic, "a", text("a", 4), within(id), within(id, rejected("not-found")))
		p.sendsSettled(s, "a", text("a", 4), within(id))
	}
	p.discharges(x, "t2", false, rejected("unknown-id"))
	p.discharges(x, "", false, rejected("unknown-id"))
	other.sendsAs(o, "a", text("a", 4), within("t1"), within("t1", rejected("not-found")))
	// To a topic that leads nowhere nothing is refused, as nothing is put.
	nowhere := p.sender("nowhere", "topic/nowhere")
	p.sendsAs(nowhere, "a", text("a", 4), within("t3"), within("t3", accepted))
	// A queue that is gone.
	priv := p.receiver("private", "", dynamic)
	toPrivate := p.sender("toprivate", "queue/tmp-1")
	p.sendsAs(toPrivate, "a", text("a", 4), within("t1"), within("t1", accepted))
	p.detaches(priv)
	p.sendsAs(toPrivate, "b", text("a", 4), within("t1"), within("t1", rejected("not-found")))
	p.discharges(x, "t1", false, rejected("transaction-rollback"))
	r.lies("q")
	// 256 parts and no more; one delivery of two parts of which the first is taken still.
	p.declares(x, "t3")
	for i := range 255 {
		p.sendsSettled(s, "p", text(fmt.Sprint(i), 4), within("t3"))
	}
	p.sendsAs(topic, "a", text("half", 4), within("t3"), within("t3", rejected("resource-limit-exceeded")))
	p.sendsAs(s, "b", text("b", 4), within("t3"), within("t3", rejected("resource-limit-exceeded")))
	p.sendsAs(topic, "c", text("c", 4), within("t3"), within("t3", rejected("resource-limit-exceeded")))
	p.discharges(x, "t3", false, accepted)
	l := r.s.Entries("q")
	if len(l) != 256 || lying(l[255]) != "256/4 half" || len(r.s.Entries("r")) != 0 {
		t.Errorf("%d, %s", len(l), lying(l[len(l)-1]))
	}
	other.discharges(y, "t2", false, accepted)
}

// P23.7: 16 transactions may be open, of all connections; one more is refused till one has ended. Their names go on.
func TestManyTransactions(t *testing.T) {
	r := made(t)
	var peers []*peer
	for range 4 {
		p := r.join()
		p.sender("x", "txns")
		peers = append(peers, p)
	}
	n := 0
	for range 4 {
		for _, p := range peers {
			n++
			p.declares(0, fmt.Sprint("t", n))
		}
	}
	for _, p := range peers {
		p.sends(0, "d", declaring(), rejected("resource-limit-exceeded"))
	}
	p := peers[1]
	for _, fail := range []bool{true, false} {
		p.discharges(0, map[bool]string{true: "t2", false: "t6"}[fail], fail, accepted)
		n++
		peers[2].declares(0, fmt.Sprint("t", n))
		peers[2].sends(0, "d", declaring(), rejected("resource-limit-exceeded"))
	}
	p.sendsSettled(0, "d", discharging("t10", false), none)
	p.sendsSettled(0, "d", declaring(), none) // it is declared, and nobody is told
	n++
	p.sends(0, "d", declaring(), rejected("resource-limit-exceeded"))
	p.discharges(0, fmt.Sprint("t", n), false, accepted)
	p.declares(0, fmt.Sprint("t", n+1))
	peers[0].leaves()
	for range 4 {
		n++
		p.declares(0, fmt.Sprint("t", n+1))
	}
	p.sends(0, "d", declaring(), rejected("resource-limit-exceeded"))
}

// P23.7: a transaction that the store refuses is gone, nothing of it was done.
func TestTransactionRollsBack(t *testing.T) {
	r := made(t, declare(lasting("q", 1)), declare(passing("r", 9)), put("r", entry(1, 4, text("x", 4))))
	p := r.join()
	x, s, l := p.sender("x", "txns"), p.sender("s", "queue/q"), p.receiver("r", "queue/r")
	p.credits(l, 2)
	p.wants("got 0.2 #0 x")
	p.declares(x, "t1")
	p.sendsAs(s, "a", text("a", 4), within("t1"), within("t1", accepted))
	p.sendsAs(s, "b", text("b", 4), within("t1"), within("t1", accepted)) // whether there is room is asked later
	p.answers(l, 0, within("t1", accepted))
	before := stored(r.s) + disked(r.d)
	p.discharges(x, "t1", false, rejected("transaction-rollback"))
	if after := stored(r.s) + disked(r.d); after != before {
		t.Fatalf("%s\nbefore: %s", after, before)
	}
	p.discharges(x, "t1", false, rejected("unknown-id"))
	// A message that it is done with has gone meanwhile.
	p.detaches(l)
	l = p.receiver("r", "queue/r")
	p.credits(l, 1)
	p.wants(fmt.Sprintf("got 0.%d #0 x", l))
	p.declares(x, "t2")
	p.answers(l, 0, within("t2", accepted))
	p.detaches(l)
	p.discharges(x, "t2", false, rejected("transaction-rollback"))
	r.lies("r", "1/4 x")
	r.lies("q")
}

// P23.7: anything else on a link for transactions is rejected with not-implemented; a delivery's own state is not looked at there.
func TestOtherOrders(t *testing.T) {
	r := made(t, declare(lasting("q", 9)))
	p := r.join()
	x := p.sender("x", "txns")
	data := message.Blank()
	data.Data = []string{string(declaring())}
	sequence := message.Blank()
	sequence.Body, sequence.Data, sequence.Sequences = api.BodySequence, nil, []api.Value{sample.List(sample.Num(api.Ulong, 49))}
	number := func(n uint64) api.Value { return sample.Num(api.Ulong, n) }
	all := [][]byte{
		encoded(data), encoded(sequence), text("x", 4), plainly("declare"), order(api.KAccepted), order(api.KDeclared, sample.Text(api.Binary, "t1")), order(api.KCoordinator, api.Value{}),
		bodied(api.Value{}), bodied(number(49)), bodied(sample.List()), bodied(sample.Described(number(49), api.Value{})), bodied(sample.Described(number(49), sample.List(number(1)))), bodied(sample.Described(number(48), sample.List())),
		bodied(sample.Described(number(50), sample.List())), bodied(sample.Described(number(50), sample.List(sample.Text(api.String, "t1")))), bodied(sample.Described(number(50), sample.List(sample.Text(api.Binary, "t1"), number(1)))),
		bodied(sample.Described(number(50), sample.List(sample.Text(api.Binary, "t1"), sample.Num(api.Bool, 1), api.Value{}))), bodied(sample.Described(sample.Num(api.Uint, 49), sample.List())), bodied(sample.List(sample.Described(number(49), sample.List()))),
	}
	for _, b := range append(all, noMessages()...) {
		before := r.all()
		p.sends(x, "t", b, rejected("not-implemented"))
		p.sendsAs(x, "t", b, within("t1"), rejected("not-implemented"))
		p.sendsSettled(x, "t", b, none)
		if after := r.all(); after != before {
			t.Fatalf("%x: %s\nbefore: %s", b, after, before)
		}
	}
	p.declares(x, "t1")
	p.sendsAs(x, "d", declaring(), within("t9"), declared("t2"))
	p.sendsAs(x, "d", discharging("t1", false), within("t2"), accepted)
	p.sendsAs(x, "d", discharging("t2", true), failed, accepted)
	// By the symbols of the kinds' names, with all other sections, a fail that is written out and one that isn't.
	named := func(word string, l ...api.Value) []byte {
		m := message.Blank()
		m.Header.Has, m.Header.Priority, m.App = true, 9, sample.Pairs(sample.Text(api.String, "k"), sample.Num(api.Uint, 1))
		m.Body, m.Data, m.Value = api.BodyValue, nil, sample.Described(sample.Text(api.Symbol, "longshore:"+word+":list"), sample.List(l...))
		return encoded(m)
	}
	s := p.sender("s", "queue/q")
	for i, fail := range []api.Value{{}, sample.Num(api.Bool, 0), sample.Num(api.Bool, 1)} {
		id := fmt.Sprint("t", i+3)
		p.sends(x, "d", named("declare"), declared(id))
		p.sendsAs(s, "a", text(id, 4), within(id), within(id, accepted))
		p.sends(x, "d", named("discharge", sample.Text(api.Binary, id), fail), accepted)
	}
	r.lies("q", "1/4 t3", "2/4 t4")
}

// P23.7: what a transaction has put is served behind the delivery that has discharged it; what it gave back too, by priority and age.
func TestServedBehindDischarge(t *testing.T) {
	r := made(t, declare(lasting("q", 9)), put("q", entry(1, 4, text("one", 4))), put("q", entry(2, 4, text("two", 4))))
	p, other := r.join(), r.join()
	x, s, l := p.sender("x", "txns"), p.sender("s", "queue/q"), p.receiver("r", "queue/q")
	p.credits(l, 2)
	p.wants("got 0.2 #0 one", "got 0.2 #1 two")
	k := other.receiver("r", "queue/q")
	other.credits(k, 9)
	other.wants()
	p.declares(x, "t1")
	p.sendsAs(s, "a", text("three", 4), within("t1"), within("t1", accepted))
	p.answers(l, 1, within("t1", released))
	p.answers(l, 0, within("t1", failed))
	other.wants()
	p.discharges(x, "t1", false, accepted)
	other.wants("got 0.0 #0 one count 1", "got 0.0 #1 two", "got 0.0 #2 three")
}
