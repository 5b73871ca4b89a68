package broker_test

import (
	"fmt"
	"math/rand"
	"slices"
	"strings"
	"testing"

	"longshore/api"
	"longshore/disk"
	"longshore/message"
)

// life is what is known of a message in one of the queues that it leads to, by what its sender and its receivers were told.
type life struct {
	what    string
	queue   string
	durable bool
	other   *life // in the other queue, of what is sent to both
	told    int   // what its sender was told: accepted or rejected; 0: nothing
	holder  *trader
	done    int // 1: a receiver has said that it is accepted; 2: it was told that this is settled
	lost    bool
}

// market is peers who send messages, each another one, and receive them, by chance. Nothing is dead there, and no time goes on.
type market struct {
	*rand.Rand
	*rig
	now     int
	lives   map[string]*life // by their keys
	traders []*trader
	counts  map[string]int
}

// trader is a peer with senders to q, to z and to both, and a receiver from either.
type trader struct {
	*peer
	sent map[string][]*life // by tags
	got  map[string]*life   // by handles and tags
}

// open begins anew on a disk.
func (m *market) open(t *testing.T, d *disk.Disk, ops ...api.Op) {
	t.Helper()
	m.rig, m.traders = over(t, d, ops...), nil
	for range 3 {
		m.comes()
	}
}

// comes is a new trader.
func (m *market) comes() {
	p := m.rig.join(func(own, peer *api.ConnConfig) { own.Window, peer.Window, peer.MaxFrame = 3, 3, 512 })
	for _, address := range []string{"queue/q", "queue/z", "topic/t.u"} {
		p.sender("s "+address, address)
	}
	p.receiver("q", "queue/q")
	p.receiver("z", "queue/z", func(a *api.Perform) { a.RcvMode = api.RcvSecond })
	m.traders = append(m.traders, &trader{p, map[string][]*life{}, map[string]*life{}})
}

// act lets a trader do something by chance.
func (m *market) act(x *trader) {
	switch n := m.Intn(20); {
	case n < 8:
		m.send(x, m.Intn(3))
	case n < 11:
		x.c.Credit(0, 3+m.Intn(2), m.Intn(4), false)
	default:
		m.answer(x)
	}
}

func (m *market) send(x *trader, h int) {
	m.now++
	durable := m.Intn(3) > 0
	what := fmt.Sprint("m", m.now)
	b := text(what+strings.Repeat(" ", 300*m.Intn(3)), m.Intn(10), func(a *api.Message) { a.Header.Durable = durable })
	if _, e := x.c.Send(0, h, what, b, false, none); e != api.OK {
		return
	}
	for _, queue := range [][]string{{"q"}, {"z"}, {"q", "z"}}[h] {
		x.sent[what] = append(x.sent[what], &life{what: what, queue: queue, durable: durable})
	}
	if l := x.sent[what]; len(l) == 2 {
		l[0].other, l[1].other = l[1], l[0]
	}
	for _, l := range x.sent[what] {
		m.lives[l.key()] = l
	}
}

func (m *market) answer(x *trader) {
	var tags []string
	for tag, l := range x.got {
		if l.holder == x && l.done == 0 {
			tags = append(tags, tag)
		}
	}
	if len(tags) == 0 {
		return
	}
	slices.Sort(tags)
	tag := tags[m.Intn(len(tags))]
	l, s := x.got[tag], anyOf(m.Rand, accepted, accepted, released, failed)
	wantErrno(m.t, "Settle", x.c.Settle(0, int(tag[0]-'0'), tag[1:], s, false), api.OK)
	l.holder = nil
	if s.Kind == api.KAccepted {
		l.done = 1
	} else {
		delete(x.got, tag)
	}
}

// hears is what a trader is told.
func (m *market) hears(x *trader) {
	for _, e := range x.c.Feed(m.b.Out(x.n)) {
		at := fmt.Sprint(e.Handle) + e.Delivery.Tag
		switch {
		case e.Kind == api.EvDelivery:
			a, _, _ := message.Decode(e.Delivery.Data)
			l := m.lives[[]string{"q ", "z "}[e.Handle-3]+strings.TrimRight(a.Value.Text, " ")]
			if l == nil || l.told == api.KRejected || l.done > 0 || l.lost || l.holder != nil {
				m.t.Fatalf("%s comes: %+v", a.Value.Text, l)
			}
			l.holder, x.got[at] = x, l
			m.counts["came"]++
		case e.Kind == api.EvState && e.Handle < 3:
			for _, l := range x.sent[e.Delivery.Tag] {
				l.told = e.State.Kind
			}
			m.counts[fmt.Sprint("told ", e.State.Kind)]++
		case e.Kind == api.EvState && e.State.Kind == api.KAccepted:
			x.got[at].done = 2
			m.counts["done"]++
		case e.Kind == api.EvDetach || e.Kind == api.EvEnd || e.Kind == api.EvClose:
			m.t.Fatal(brief(e))
		}
	}
}

// look is what lies in the queues, by what the messages say, each with its queue.
func (m *market) look() map[string][]api.Entry {
	there := map[string][]api.Entry{}
	for _, queue := range []string{"q", "z"} {
		for _, e := range m.s.Entries(queue) {
			a, _, _ := message.Decode(e.Data)
			l := life{what: strings.TrimRight(a.Value.Text, " "), queue: queue}
			there[l.key()] = append(there[l.key()], e)
		}
	}
	return there
}

func (l *life) key() string { return l.queue + " " + l.what }

// check holds the store against what the traders know.
func (m *market) check() {
	m.t.Helper()
	there := m.look()
	for _, l := range m.lives {
		all := there[l.key()]
		n := len(all)
		may := n == 0 || n == 1 && !l.lost && l.told != api.KRejected && l.done < 2
		must := l.told == api.KAccepted && l.done == 0 && !l.lost
		if !may || must && n == 0 || l.holder != nil && (n == 0 || all[0].Holder == 0) {
			m.t.Fatalf("%+v lies there %d times: %s", l, n, stored(m.s))
		}
	}
}

// leaves lets a trader go: what it had said of deliveries may have come, or not.
func (m *market) leaves(x *trader) {
	m.t.Helper()
	m.traders = slices.DeleteFunc(m.traders, func(y *trader) bool { return x == y })
	x.leaves()
	there := m.look()
	for _, l := range x.got {
		if l.holder == x {
			l.holder = nil
		}
		l.resolve(len(there[l.key()]))
	}
	m.counts["left"]++
}

// resolve takes down what has become of a delivery of which it was said that it is accepted, where nothing more will be told, and so many are there.
func (l *life) resolve(there int) {
	if l.done == 1 {
		l.done = 2 * (1 - there)
	}
}

// move brings a trader's bytes to the broker; false, if it is down then.
func (m *market) move(x *trader) bool {
	m.t.Helper()
	switch e := m.b.Feed(x.n, x.c.Out()); e {
	case api.OK:
		return true
	case api.ErrDown:
		m.isDown()
	default:
		m.t.Fatalf("Feed: %d", e)
	}
	return false
}

// falls is a restart behind a fall: of what is durable nothing is lost that a sender was told of, nothing is there of which a receiver was told that it is done; what was sent to both queues is in both or in none.
func (m *market) falls(t *testing.T) {
	t.Helper()
	m.counts["falls"]++
	m.d.Crash(m.Intn(50))
	m.d.Start()
	m.open(t, m.d)
	there := m.look()
	for _, l := range m.lives {
		n := len(there[l.key()])
		l.holder = nil
		switch {
		case l.lost || !l.durable || l.done == 2 || l.told == api.KRejected:
			if n > 0 {
				t.Fatalf("%+v is there", l)
			}
			l.lost = true
		case l.told == api.KAccepted && l.done == 0 && n != 1:
			t.Fatalf("%+v is there %d times", l, n)
		case l.told == 0 && l.done == 0 && l.other != nil && l.other.done == 0:
			if other := len(there[l.other.key()]); other != n {
				t.Fatalf("%+v is there %d times, in the other queue %d times", l, n, other)
			}
		}
	}
	for _, l := range m.lives {
		n := len(there[l.key()])
		l.resolve(n)
		if l.told == 0 && n > 0 {
			l.told = api.KAccepted
		} else if n == 0 {
			l.lost = true
		}
	}
}

// trade lets all of it go on by chance.
func (m *market) trade(t *testing.T, steps int, power bool) {
	t.Helper()
	for range steps {
		x := m.traders[m.Intn(len(m.traders))]
		for range m.Intn(4) {
			m.act(x)
		}
		if power && m.Intn(15) == 0 {
			m.d.Arm(m.Intn(4), m.Intn(90))
		}
		if !m.move(x) {
			m.falls(t)
			m.check()
			continue
		}
		m.check()
		for _, x := range m.traders {
			if m.Intn(2) == 0 {
				m.hears(x)
			}
		}
		if !power && m.Intn(60) == 0 {
			m.leaves(x)
			m.comes()
		}
		m.check()
	}
}

func newMarket(t *testing.T, seed int64, counts map[string]int) *market {
	m := &market{Rand: rand.New(rand.NewSource(seed)), lives: map[string]*life{}, counts: counts}
	m.open(t, disk.New(maxDisk), declare(lasting("q", 12)), declare(lasting("z", 6)), bind("t.*", "q"), bind("t.*", "z"))
	return m
}

// P23.12: a message that was accepted lies in each queue that it led to, once, till it is accepted there; one that was rejected in none. One is held by one link at a time, and none that was accepted goes out again.
func TestEachOnce(t *testing.T) {
	counts := map[string]int{}
	for seed := range int64(20) {
		newMarket(t, seed, counts).trade(t, 250, false)
	}
	for _, want := range []string{"came", "told 36", "told 37", "done", "left"} {
		if counts[want] < 50 {
			t.Errorf("%s: %d times", want, counts[want])
		}
	}
}

// DOC.md's P0.4 and P0.5: wherever the power fails: what a sender was told is accepted, and was durable, is there; what a receiver was told is done is not; what was sent to several queues is in all or none.
func TestKeptAndDoneOnce(t *testing.T) {
	counts := map[string]int{}
	for seed := range int64(20) {
		newMarket(t, seed+1000, counts).trade(t, 250, true)
	}
	for _, want := range []string{"came", "told 36", "told 37", "done", "falls"} {
		if counts[want] < 50 {
			t.Errorf("%s: %d times", want, counts[want])
		}
	}
}
