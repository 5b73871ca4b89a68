package broker_test

import (
	"fmt"
	"hash/crc32"
	"os"
	"reflect"
	"runtime/debug"
	"slices"
	"strings"
	"testing"

	"longshore/api"
	"longshore/broker"
	"longshore/conn"
	"longshore/disk"
	"longshore/frame"
	"longshore/message"
	"longshore/perform"
	"longshore/sample"
	"longshore/shape"
	"longshore/store"
)

// The limits are said anew, not asked of the program.
const (
	maxConns   = 16
	maxLinks   = 64
	maxQueues  = 64
	maxQueue   = 4096
	maxBinds   = 256
	maxTxns    = 16
	maxOps     = 256
	maxWord    = 4294967295
	maxTime    = 1125899906842624
	maxMessage = 1048576
	maxFrame   = 1048576
	maxDisk    = 16777216
)

// The tests make much that is soon done with; collected less often, they take half the time.
func TestMain(m *testing.M) {
	debug.SetGCPercent(800)
	os.Exit(m.Run())
}

// calls are what a broker can be asked.
type calls interface {
	Join(c api.ConnConfig) (int, api.Errno)
	Leave(conn int) api.Errno
	Feed(conn int, chunk []byte) api.Errno
	Tick(now int) api.Errno
	Out(conn int) []byte
	Conns() []int
	Over(conn int) (bool, api.Fault)
}

var _ calls = (*broker.Broker)(nil)

// The states, as a client says them.
var (
	none     = api.State{}
	accepted = api.State{Kind: api.KAccepted}
	released = api.State{Kind: api.KReleased}
	modified = api.State{Kind: api.KModified}
	failed   = api.State{Kind: api.KModified, Failed: true}
	received = api.State{Kind: api.KReceived, Section: 1, Offset: 5}
)

func rejected(cond string) api.State {
	return api.State{Kind: api.KRejected, Fault: api.Fault{Cond: cond}}
}

// within is a state within a transaction; without an inner one there is none in it.
func within(txn string, inner ...api.State) api.State {
	return api.State{Kind: api.KTransactional, Txn: txn, Inner: inner}
}

// The operations.

func declare(c api.QueueConfig) api.Op { return api.Op{Kind: 1, Config: c} }

func gone(queue string) api.Op { return api.Op{Kind: 2, Queue: queue} }

func bind(pattern, queue string) api.Op { return api.Op{Kind: 3, Pattern: pattern, Queue: queue} }

func put(queue string, e api.Entry) api.Op { return api.Op{Kind: 5, Queue: queue, Entry: e} }

func remove(queue string, seq int) api.Op { return api.Op{Kind: 6, Queue: queue, Seq: seq} }

// lasting is a durable queue, passing is one that is not.
func lasting(name string, most int) api.QueueConfig {
	return api.QueueConfig{Name: name, Most: most, Durable: true}
}

func passing(name string, most int) api.QueueConfig { return api.QueueConfig{Name: name, Most: most} }

// dying is a queue whose messages are dead behind so many tries.
func dying(c api.QueueConfig, dead string, tries int) api.QueueConfig {
	c.Dead, c.Tries = dead, tries
	return c
}

// Messages.

// text is a message whose body is a text, and whose header has a priority; turns change it.
func text(s string, priority int, turns ...func(m *api.Message)) []byte {
	m := message.Blank()
	m.Header.Has, m.Header.Priority = true, priority
	m.Body, m.Data, m.Value = api.BodyValue, nil, sample.Text(api.String, s)
	for _, turn := range turns {
		turn(&m)
	}
	return encoded(m)
}

func encoded(m api.Message) []byte {
	b, e := message.Encode(m)
	if e != api.OK {
		panic(fmt.Sprintf("%+v: %d", m, e))
	}
	return b
}

func durable(m *api.Message) { m.Header.Durable = true }

func counted(n int) func(m *api.Message) { return func(m *api.Message) { m.Header.Count = n } }

func lives(ttl int) func(m *api.Message) { return func(m *api.Message) { m.Header.Ttl = ttl } }

// coloured is a message that says something of itself, for filters.
func coloured(colour string) func(m *api.Message) {
	return func(m *api.Message) {
		m.App = sample.Pairs(sample.Text(api.String, "colour"), sample.Text(api.String, colour))
	}
}

// plainly is a message without a header.
func plainly(s string) []byte {
	m := message.Blank()
	m.Body, m.Data, m.Value = api.BodyValue, nil, sample.Text(api.String, s)
	return encoded(m)
}

// order is a message whose body is a composite.
func order(kind int, fields ...api.Value) []byte {
	v, e := shape.Pack(api.Record{Kind: kind, Fields: fields})
	if e != api.OK {
		panic(e)
	}
	return bodied(v)
}

// bodied is a message with such a body.
func bodied(v api.Value) []byte {
	m := message.Blank()
	m.Body, m.Data, m.Value = api.BodyValue, nil, v
	return encoded(m)
}

func declaring() []byte { return order(api.KDeclare) }

func discharging(txn string, fail bool) []byte {
	n := 0
	if fail {
		n = 1
	}
	return order(api.KDischarge, sample.Text(api.Binary, txn), sample.Num(api.Bool, uint64(n)))
}

// entry is a message as it lies in a queue.
func entry(seq, priority int, data []byte) api.Entry {
	return api.Entry{Seq: seq, Priority: priority, Expiry: -1, Data: data}
}

// Attaches, as a peer says them.

func with(kind int, turns ...func(p *api.Perform)) api.Perform {
	p := perform.Blank(kind)
	for _, turn := range turns {
		turn(&p)
	}
	return p
}

// sends is the Attach of a peer that sends to an address, receives that of one that receives from it.
func sends(name, address string, turns ...func(p *api.Perform)) api.Perform {
	return with(api.KAttach, append([]func(p *api.Perform){func(p *api.Perform) {
		p.Name, p.InitialCount = name, 0
		p.Target = api.Terminus{Kind: api.KTarget, Address: address}
	}}, turns...)...)
}

func receives(name, address string, turns ...func(p *api.Perform)) api.Perform {
	return with(api.KAttach, append([]func(p *api.Perform){func(p *api.Perform) {
		p.Name, p.Receiver = name, true
		p.Source = api.Terminus{Kind: api.KSource, Address: address}
	}}, turns...)...)
}

func copying(p *api.Perform) { p.Source.Mode = 1 }

func settling(p *api.Perform) { p.SndMode = api.SndSettled }

func dynamic(p *api.Perform) { p.Source.Dynamic = true }

func filtered(filter string) func(p *api.Perform) {
	return func(p *api.Perform) { p.Source.Filter = filter }
}

func atMost(size int) func(p *api.Perform) { return func(p *api.Perform) { p.MaxMessage = size } }

// coordinated is an Attach to a coordinator.
func coordinated(p *api.Perform) { p.Target = api.Terminus{Kind: api.KCoordinator} }

// rig is a disk, a store over it, a broker over that, and its connections.
type rig struct {
	t     *testing.T
	d     *disk.Disk
	s     *store.Store
	b     *broker.Broker
	peers []*peer
}

// made is one on a new disk with much room, behind these operations.
func made(t *testing.T, ops ...api.Op) *rig {
	t.Helper()
	return over(t, disk.New(maxDisk), ops...)
}

// over is one over a disk.
func over(t *testing.T, d *disk.Disk, ops ...api.Op) *rig {
	t.Helper()
	s, e := store.Open(d)
	wantErrno(t, "Open", e, api.OK)
	r := &rig{t: t, d: d, s: s, b: broker.New(s)}
	if r.b == nil {
		t.Fatal("New: nil")
	}
	r.apply(ops...)
	return r
}

func (r *rig) apply(ops ...api.Op) {
	r.t.Helper()
	if n, e := r.s.Apply(ops); n != 0 || e != api.OK {
		r.t.Fatalf("Apply: %d, %d of %+v", n, e, ops)
	}
}

// behindFall is the store that is opened over the disk's files, were the power to fail now.
func (r *rig) behindFall() *store.Store {
	r.t.Helper()
	d, e := disk.Load(r.d.Files(), maxDisk)
	wantErrno(r.t, "Load", e, api.OK)
	d.Crash(0)
	d.Start()
	s, e := store.Open(d)
	wantErrno(r.t, "Open", e, api.OK)
	return s
}

// server is the configuration of a broker's end, client that of its peer.
func server() api.ConnConfig {
	return api.ConnConfig{Id: "g", Server: true, MaxFrame: 4096, ChannelMax: 3, Window: 1000}
}

func client() api.ConnConfig {
	return api.ConnConfig{Id: "c", MaxFrame: 4096, ChannelMax: 3, Window: 1000}
}

// peer is a connection, at its other end.
type peer struct {
	*rig
	n    int
	c    *conn.Conn
	seen []string // what has happened there, and was not wanted yet
}

// join is a new connection, which is up and has a session; turns change both configurations.
func (r *rig) join(turns ...func(own, peer *api.ConnConfig)) *peer {
	r.t.Helper()
	p := r.joinClosed(turns...)
	p.open()
	return p
}

// joinClosed is one on which nothing was said yet.
func (r *rig) joinClosed(turns ...func(own, peer *api.ConnConfig)) *peer {
	r.t.Helper()
	own, other := server(), client()
	for _, turn := range turns {
		turn(&own, &other)
	}
	n, e := r.b.Join(own)
	wantErrno(r.t, "Join", e, api.OK)
	p := &peer{rig: r, n: n, c: conn.New(other)}
	r.peers = append(r.peers, p)
	return p
}

func (p *peer) open() {
	p.t.Helper()
	wantErrno(p.t, "Open", p.c.Open(), api.OK)
	p.wants("open")
	p.begin("begin 0")
}

func (p *peer) begin(want string) {
	p.t.Helper()
	_, e := p.c.Begin()
	wantErrno(p.t, "Begin", e, api.OK)
	p.wants(want)
}

// leaves lets a connection go.
func (p *peer) leaves() {
	p.t.Helper()
	wantErrno(p.t, "Leave", p.b.Leave(p.n), api.OK)
	p.lost()
}

// lost is where a connection is none any more.
func (p *peer) lost() {
	p.peers = slices.DeleteFunc(p.peers, func(q *peer) bool { return q == p })
}

// move moves all bytes, either way, till there are none.
func (r *rig) move() {
	r.t.Helper()
	for moved := true; moved; {
		moved = false
		for _, p := range r.peers {
			if b := p.c.Out(); len(b) > 0 {
				moved = true
				p.feeds(b)
			}
		}
		for _, p := range r.peers {
			if b := r.b.Out(p.n); len(b) > 0 {
				moved = true
				p.hears(b)
			}
		}
	}
}

func (p *peer) feeds(b []byte) {
	p.t.Helper()
	wantErrno(p.t, "Feed", p.b.Feed(p.n, b), api.OK)
}

func (p *peer) hears(b []byte) {
	for _, e := range p.c.Feed(b) {
		p.seen = append(p.seen, brief(e))
	}
}

// wants moves all bytes, and wants that just this has happened at the peer since it was wanted last.
func (p *peer) wants(want ...string) {
	p.t.Helper()
	p.move()
	p.wantsSeen(want...)
}

func (p *peer) wantsSeen(want ...string) {
	p.t.Helper()
	got := p.seen
	p.seen = nil
	if !slices.Equal(got, want) {
		p.t.Fatalf("connection %d:\n  %s\nwant\n  %s", p.n, strings.Join(got, "\n  "), strings.Join(want, "\n  "))
	}
}

// attaches attaches a link in the first session, and wants this of it; its handle.
func (p *peer) attaches(a api.Perform, want ...string) int {
	p.t.Helper()
	return p.attachesAt(0, a, want...)
}

func (p *peer) attachesAt(channel int, a api.Perform, want ...string) int {
	p.t.Helper()
	h := p.attachesOnly(channel, a)
	for i := range want {
		want[i] = strings.ReplaceAll(want[i], "#", fmt.Sprintf("%d.%d", channel, h))
	}
	p.wants(want...)
	return h
}

// attachesOnly attaches one, and moves nothing.
func (p *peer) attachesOnly(channel int, a api.Perform) int {
	p.t.Helper()
	h, e := p.c.Attach(channel, a)
	wantErrno(p.t, "Attach", e, api.OK)
	return h
}

// sender is a link to an address, receiver one from it.
func (p *peer) sender(name, address string, turns ...func(p *api.Perform)) int {
	p.t.Helper()
	return p.attaches(sends(name, address, turns...), "attach #", "flow # 16")
}

func (p *peer) receiver(name, address string, turns ...func(p *api.Perform)) int {
	p.t.Helper()
	return p.attaches(receives(name, address, turns...), "attach #")
}

// sends sends a delivery that is not settled, and wants this to be told of it.
func (p *peer) sends(h int, tag string, data []byte, want api.State) {
	p.t.Helper()
	p.sendsAs(h, tag, data, none, want)
}

// sendsAs sends it with a state. That credit is given anew now and then is passed over.
func (p *peer) sendsAs(h int, tag string, data []byte, s, want api.State) {
	p.t.Helper()
	p.sendsOnly(h, tag, data, false, s)
	p.move()
	p.passOver(fmt.Sprintf("flow 0.%d 16", h))
	p.wantsSeen(fmt.Sprintf("state 0.%d %s %s settled", h, shown(tag), told(want)))
}

// passOver forgets what has happened last, if it is this.
func (p *peer) passOver(what string) {
	if n := len(p.seen); n > 0 && p.seen[n-1] == what {
		p.seen = p.seen[:n-1]
	}
}

// sendsOnly sends one, and moves nothing.
func (p *peer) sendsOnly(h int, tag string, data []byte, settled bool, s api.State) {
	p.t.Helper()
	_, e := p.c.Send(0, h, tag, data, settled, s)
	wantErrno(p.t, "Send", e, api.OK)
}

// sendsSettled sends one that is settled, of which nothing is told.
func (p *peer) sendsSettled(h int, tag string, data []byte, s api.State) {
	p.t.Helper()
	p.sendsOnly(h, tag, data, true, s)
	p.move()
	p.passOver(fmt.Sprintf("flow 0.%d 16", h))
	p.wantsSeen()
}

// credits gives credit, and moves nothing.
func (p *peer) credits(h, credit int) {
	p.t.Helper()
	wantErrno(p.t, "Credit", p.c.Credit(0, h, credit, false), api.OK)
}

// says says what became of a delivery, and moves nothing.
func (p *peer) says(h, tag int, s api.State, settled bool) {
	p.t.Helper()
	wantErrno(p.t, "Settle", p.c.Settle(0, h, numbered(tag), s, settled), api.OK)
}

func (p *peer) detaches(h int) {
	p.t.Helper()
	wantErrno(p.t, "Detach", p.c.Detach(0, h, true, api.Fault{}), api.OK)
	p.wants()
}

// numbered is the tag of a link's delivery.
func numbered(n int) string {
	return string([]byte{byte(n >> 56), byte(n >> 48), byte(n >> 40), byte(n >> 32), byte(n >> 24), byte(n >> 16), byte(n >> 8), byte(n)})
}

// shown is a tag as text: that of a number is the number.
func shown(tag string) string {
	for n := range 5000 {
		if tag == numbered(n) {
			return fmt.Sprint("#", n)
		}
	}
	return fmt.Sprintf("%q", tag)
}

// brief is what happened at a peer, as text; of an Attach and a Flow just what most tests ask.
func brief(e api.Event) string {
	at := fmt.Sprintf("%d.%d", e.Channel, e.Handle)
	settled := ""
	if e.Settled || e.Delivery.Settled {
		settled = " settled"
	}
	switch e.Kind {
	case api.EvOpen:
		return "open"
	case api.EvBegin:
		return fmt.Sprint("begin ", e.Channel)
	case api.EvAttach:
		if e.Perform.Source.Kind+e.Perform.Target.Kind == 0 {
			return "refused " + at
		}
		return "attach " + at
	case api.EvFlow:
		s := fmt.Sprintf("flow %s %d", at, e.Perform.Credit)
		if e.Perform.Available >= 0 { // of a sender
			s += fmt.Sprintf(" count %d", e.Perform.Count)
		}
		if e.Perform.Drain {
			s += " drain"
		}
		return s
	case api.EvDelivery:
		return fmt.Sprintf("got %s %s %s%s", at, shown(e.Delivery.Tag), said(e.Delivery.Data), settled)
	case api.EvState:
		return fmt.Sprintf("state %s %s %s%s", at, shown(e.Delivery.Tag), told(e.State), settled)
	case api.EvDetach:
		s := "detach " + at + " " + e.Fault.Cond
		if !e.Perform.Closed {
			s += " not closed"
		}
		return s
	case api.EvEnd:
		return fmt.Sprintf("end %d %s", e.Channel, e.Fault.Cond)
	case api.EvClose:
		return "close " + e.Fault.Cond
	}
	return told(e)
}

// said is what a message says, with its count; of other bytes what they are.
func said(b []byte) string {
	m, _, e := message.Decode(b)
	if e != api.OK || m.Body != api.BodyValue || m.Value.Kind != api.String {
		if len(b) > 100 {
			return fmt.Sprintf("%d bytes %08x", len(b), crc32.ChecksumIEEE(b))
		}
		return fmt.Sprintf("%x", b)
	}
	s := m.Value.Text
	if len(s) > 100 {
		s = fmt.Sprintf("%s.. %d %08x", s[:4], len(s), crc32.ChecksumIEEE([]byte(s)))
	}
	if m.Header.Count > 0 {
		s += fmt.Sprint(" count ", m.Header.Count)
	}
	return s
}

// lying is a message of a queue, as text.
func lying(e api.Entry) string {
	s := fmt.Sprintf("%d/%d %s", e.Seq, e.Priority, said(e.Data))
	if e.Durable {
		s += " durable"
	}
	if e.Count > 0 {
		s += fmt.Sprint(" failed ", e.Count)
	}
	if e.Expiry >= 0 {
		s += fmt.Sprint(" until ", e.Expiry)
	}
	if e.Holder != 0 {
		s += fmt.Sprint(" held ", e.Holder)
	}
	return s
}

func lyingAll(l []api.Entry) []string {
	var s []string
	for _, e := range l {
		s = append(s, lying(e))
	}
	return s
}

// lies wants just these messages in a queue.
func (r *rig) lies(queue string, want ...string) {
	r.t.Helper()
	if got := lyingAll(r.s.Entries(queue)); !slices.Equal(got, want) {
		r.t.Fatalf("in %s:\n  %s\nwant\n  %s", queue, strings.Join(got, "\n  "), strings.Join(want, "\n  "))
	}
}

// queues wants just these queues.
func (r *rig) queues(want ...string) {
	r.t.Helper()
	var got []string
	for _, c := range r.s.Queues() {
		got = append(got, c.Name)
	}
	if !slices.Equal(got, want) {
		r.t.Fatalf("queues %q, want %q", got, want)
	}
}

// stored is all that can be seen of a store.
func stored(s *store.Store) string {
	var b strings.Builder
	fmt.Fprintf(&b, "next %d, bindings %v", s.Next(), s.Bindings())
	for _, c := range s.Queues() {
		fmt.Fprintf(&b, "\n%+v:", c)
		for _, e := range s.Entries(c.Name) {
			fmt.Fprintf(&b, " [%s %08x]", lying(e), crc32.ChecksumIEEE(e.Data))
		}
	}
	return b.String()
}

// all is all that can be seen of a store, its disk, and a broker's connections.
func (r *rig) all() string { return stored(r.s) + "\n" + disked(r.d) + "\n" + connected(r.b) }

func disked(d *disk.Disk) string {
	s := fmt.Sprint("disk up: ", d.Up())
	for _, f := range d.Files() {
		s += fmt.Sprintf(" %s %d/%d %08x", f.Name, f.Safe, len(f.Data), crc32.ChecksumIEEE(f.Data))
	}
	return s
}

func connected(b calls) string {
	s := fmt.Sprint("conns ", b.Conns())
	for n := range maxConns + 2 {
		over, f := b.Over(n)
		s += fmt.Sprint(" ", over, told(f))
	}
	return s
}

func wantErrno(t *testing.T, what string, got, want api.Errno) {
	t.Helper()
	if got != want {
		t.Fatalf("%s: %d, want %d", what, got, want)
	}
}

// isDown wants that the store is down for the broker: no bytes are taken, no time, and nothing goes out.
func (r *rig) isDown() {
	r.t.Helper()
	for _, n := range r.b.Conns() {
		wantErrno(r.t, "Feed", r.b.Feed(n, nil), api.ErrDown)
		wantErrno(r.t, "Feed", r.b.Feed(n, alive), api.ErrDown)
		if b := r.b.Out(n); len(b) > 0 {
			r.t.Fatalf("Out:%s", lines(b))
		}
	}
	wantErrno(r.t, "Tick", r.b.Tick(0), api.ErrDown)
	wantErrno(r.t, "Tick", r.b.Tick(maxTime), api.ErrDown)
	wantErrno(r.t, "Feed of none", r.b.Feed(99, nil), api.ErrNoConn)
}

// What goes over the wire ahead of the first frame, and a frame that says nothing.
var (
	mainHeader = []byte("LSHR\x00\x01\x00\x00")
	alive      = []byte("\x00\x00\x00\x08\x02\x00\x00\x00")
)

// framed is a main frame with a performative, and payload behind it.
func framed(channel int, p api.Perform, payload ...byte) []byte {
	body, e := perform.Write(p)
	if e != api.OK {
		panic(fmt.Sprintf("%+v: %d", p, e))
	}
	b, e := frame.Seal(api.Frame{Type: api.FrameMain, Channel: channel, Body: append(body, payload...)})
	if e != api.OK {
		panic(e)
	}
	return b
}

// performs are the performatives of some bytes; headers and empty frames are left out.
func performs(b []byte) []api.Perform {
	var l []api.Perform
	for at := 0; at < len(b); {
		if _, next, e := frame.ReadHeader(b, at); e == api.OK {
			at = next
			continue
		}
		f, next, e := frame.Open(b, at, maxFrame)
		if e != api.OK {
			panic(fmt.Sprintf("no item: %x", b[at:]))
		}
		at = next
		if p, _, e := perform.Read(f.Body); e == api.OK {
			l = append(l, p)
		}
	}
	return l
}

// lines are they as text, one a line.
func lines(b []byte) string {
	s := ""
	for _, p := range performs(b) {
		s += "\n  " + told(p)
	}
	return s
}

// kinds are the kinds of the performatives, as text.
func kinds(b []byte) string {
	var l []string
	for _, p := range performs(b) {
		l = append(l, map[int]string{16: "open", 17: "begin", 18: "attach", 19: "flow", 20: "transfer", 21: "disposition", 22: "detach", 23: "end", 24: "close"}[p.Kind])
	}
	return strings.Join(l, " ")
}

// told is something as text, in which all that is zero or empty is left out.
func told(x any) string {
	var b strings.Builder
	tell(&b, reflect.ValueOf(x))
	return b.String()
}

func tell(b *strings.Builder, v reflect.Value) {
	switch v.Kind() {
	case reflect.Struct:
		b.WriteString("{")
		for i := range v.NumField() {
			if f := v.Field(i); !isNothing(f) {
				b.WriteString(" " + v.Type().Field(i).Name + ":")
				tell(b, f)
			}
		}
		b.WriteString(" }")
	case reflect.Slice:
		b.WriteString("[")
		for i := range v.Len() {
			b.WriteString(" ")
			tell(b, v.Index(i))
		}
		b.WriteString(" ]")
	case reflect.String:
		fmt.Fprintf(b, "%q", v.String())
	default:
		fmt.Fprint(b, v)
	}
}

// isNothing tells whether all is zero or empty; nil and an empty list are the same.
func isNothing(v reflect.Value) bool {
	switch v.Kind() {
	case reflect.Struct:
		for i := range v.NumField() {
			if !isNothing(v.Field(i)) {
				return false
			}
		}
		return true
	case reflect.Slice:
		return v.Len() == 0
	}
	return v.IsZero()
}
