package conn_test

import (
	"fmt"
	"math/rand"
	"slices"
	"strings"
	"testing"

	"longshore/api"
	"longshore/conn"
	"longshore/guard"
	"longshore/sample"
)

// done is a call with its arguments.
type done struct {
	name string
	call func(c calls) string
}

// chance makes calls and bytes by chance, most of them such as do something where the model stands so.
type chance struct {
	*rand.Rand
	m *model
}

func (r chance) often() bool { return r.Intn(30) != 0 }

func (r chance) odd() bool { return r.Intn(120) == 0 }

// pick is one of a list, or what stands for none.
func pick[T any](r chance, l []T, none T) T {
	if len(l) == 0 {
		return none
	}
	return l[r.Intn(len(l))]
}

func (r chance) number() int {
	if r.odd() {
		return pick(r, numbers, 0)
	}
	return r.Intn(3)
}

func (r chance) tag() string {
	if r.odd() {
		return pick(r, []string{"", long(32), long(33), "\xff\x00"}, "")
	}
	return fmt.Sprint("t", r.Intn(4))
}

func (r chance) name() string { return pick(r, []string{"l", "m", ""}, "") }

func (r chance) fault() api.Fault {
	switch r.Intn(8) {
	case 0, 5:
		return pick(r, badFaults(), badFault{}).fault
	case 1:
		return pick(r, noFaults(), api.Fault{})
	case 2, 6:
		return api.Fault{Cond: "x", Text: long(r.Intn(4097))}
	case 3, 4:
		return api.Fault{Cond: "not-found", Text: "why", Info: nested(3)}
	}
	return api.Fault{}
}

// state is a state; some may not be.
func (r chance) state(odd bool) api.State {
	if odd && r.Intn(40) == 0 {
		return pick(r, []api.State{{Kind: api.KModified, Ann: nested(29)}, {Failed: true}, {Kind: 99}, {Kind: api.KModified, Ann: sample.Pairs(sample.Text(api.Symbol, "k"), sample.Text(api.Binary, long(900)))}, {Kind: api.KModified, Ann: sample.Pairs(sample.Text(api.Symbol, "k"), sample.Text(api.Binary, long(1900)))}}, api.State{})
	}
	return pick(r, []api.State{{}, {}, accepted, {Kind: api.KReceived, Section: 1, Offset: 9}, {Kind: api.KModified, Failed: true, Ann: nested(3)}, {Kind: api.KTransactional, Txn: "t", Inner: []api.State{accepted}}}, api.State{})
}

// length is one of a delivery's data, most often short, now and then such as takes many frames.
func (r chance) length() int {
	switch r.Intn(6) {
	case 0:
		return r.Intn(4000)
	case 1:
		return 400 + r.Intn(300)
	}
	return r.Intn(20)
}

func (r chance) session() *mSession {
	var l []*mSession
	for _, s := range r.m.sessions {
		if !s.gone && (!s.byUs || r.Intn(8) == 0) {
			l = append(l, s)
		}
	}
	return pick(r, l, nil)
}

func (r chance) link(fits func(l *mLink) bool) *mLink {
	var l []*mLink
	for _, x := range r.m.links {
		if !x.gone && !x.of.gone && fits(x) && (!x.detached || r.Intn(6) == 0) {
			l = append(l, x)
		}
	}
	return pick(r, l, nil)
}

// ours is a channel and a handle of ours, most often of a whole link that fits.
func (r chance) ours(fits func(l *mLink) bool) (int, int) {
	if l := r.link(func(l *mLink) bool { return l.whole() && fits(l) }); l != nil && r.often() {
		return l.of.channel, l.handle
	}
	if l := r.link(func(l *mLink) bool { return l.own != nil && l.peer == nil }); l != nil && r.Intn(2) == 0 {
		return l.of.channel, l.handle
	}
	return r.number(), r.number()
}

func anyLink(l *mLink) bool { return true }

// channel is one of ours, most often a session's.
func (r chance) channel() int {
	if s := r.session(); s != nil && r.often() {
		return s.channel
	}
	return r.number()
}

// Calls.

func (r chance) act() done {
	switch n := r.Intn(46); {
	case n < 2:
		return r.begin()
	case n < 6:
		return r.attach()
	case n < 10:
		return r.credit()
	case n < 20:
		return r.send()
	case n < 23:
		channel, handle := r.ours(func(l *mLink) bool { return !l.receiver })
		return done{fmt.Sprint("Drained ", channel, handle), func(c calls) string { return fmt.Sprint(c.Drained(channel, handle)) }}
	case n < 31:
		return r.settle()
	case n == 31 || n == 34:
		channel, handle := r.ours(anyLink)
		closed, f := r.Intn(2) == 0, r.fault()
		return done{fmt.Sprint("Detach ", channel, handle, closed, told(f)), func(c calls) string { return fmt.Sprint(c.Detach(channel, handle, closed, f)) }}
	case n == 32:
		channel, f := r.channel(), r.fault()
		return done{fmt.Sprint("End ", channel, " ", told(f)), func(c calls) string { return fmt.Sprint(c.End(channel, f)) }}
	case n == 33 && r.Intn(3) == 0 || n > 30 && !r.m.Up() && r.Intn(3) == 0:
		f := r.fault()
		return done{fmt.Sprint("Close ", told(f)), func(c calls) string { return fmt.Sprint(c.Close(f)) }}
	case n < 36:
		return done{"Open", func(c calls) string { return fmt.Sprint(c.Open()) }}
	}
	now := r.m.now + r.Intn(14) - 3
	if r.Intn(5) == 0 {
		now += 2*r.m.cfg.Idle - 10
	}
	if r.Intn(2000) == 0 {
		now = pick(r, numbers, 0)
	}
	return done{fmt.Sprint("Tick ", now), func(c calls) string { return told(c.Tick(now)) }}
}

func (r chance) begin() done {
	return done{"Begin", func(c calls) string { return fmt.Sprint(c.Begin()) }}
}

func (r chance) attach() done {
	channel, p := r.channel(), r.ownAttach()
	return done{fmt.Sprintf("Attach %d %s", channel, told(p)), func(c calls) string { return fmt.Sprint(c.Attach(channel, p)) }}
}

func (r chance) credit() done {
	channel, handle := r.ours(func(l *mLink) bool { return l.receiver })
	credit, drain := r.Intn(6), r.Intn(4) == 0
	if r.odd() {
		credit = pick(r, numbers, 0)
	}
	return done{fmt.Sprintln("Credit", channel, handle, credit, drain), func(c calls) string { return fmt.Sprint(c.Credit(channel, handle, credit, drain)) }}
}

// ownAttach is an Attach of ours: a new link, or, most often, the answer to one of the peer's.
func (r chance) ownAttach() api.Perform {
	p := attachOf(r.name(), r.number(), r.Intn(2) == 0)
	if l := r.link(func(l *mLink) bool { return l.own == nil }); l != nil && r.Intn(5) > 0 {
		p.Name, p.Receiver = l.name, l.receiver
	}
	r.modes(&p)
	switch r.Intn(30) {
	case 0:
		p.Kind = api.KFlow
	case 1:
		p.SndMode = 3
	case 2:
		p.Name = long(65)
	case 3:
		p.Source = api.Terminus{Kind: api.KSource, Address: long(r.Intn(1000))}
	}
	return p
}

func (r chance) modes(p *api.Perform) {
	p.SndMode, p.RcvMode = pick(r, []int{0, 1, 2, 2}, 0), r.Intn(2)
	p.InitialCount = pick(r, []int{-1, 0, 5, maxWord - 1, maxWord}, 0)
	p.MaxMessage = pick(r, []int{0, 0, 0, 500, 3000, maxMessage + 1, 1 << 62}, 0)
}

func (r chance) send() done {
	channel, handle := r.ours(func(l *mLink) bool { return !l.receiver })
	tag, data, settled, s := r.tag(), filled(r.length()), r.Intn(2) == 0, r.state(true)
	if r.odd() {
		data = filled(pick(r, []int{maxMessage, maxMessage + 1}, 0))
	}
	return done{fmt.Sprintln("Send", channel, handle, tag, len(data), settled, told(s)), func(c calls) string { return fmt.Sprint(c.Send(channel, handle, tag, data, settled, s)) }}
}

func (r chance) settle() done {
	channel, handle := r.ours(func(l *mLink) bool { return len(l.pending) > 0 })
	tag, s, settled := r.tag(), r.state(true), r.Intn(2) == 0
	if l, e := r.m.at(channel, handle); e == api.OK && len(l.pending) > 0 && r.Intn(6) > 0 {
		tag = pick(r, l.pending, api.Pending{}).Tag
	}
	return done{fmt.Sprintln("Settle", channel, handle, tag, told(s), settled), func(c calls) string { return fmt.Sprint(c.Settle(channel, handle, tag, s, settled)) }}
}

// The peer.

// says is a frame of the peer's.
func (r chance) says() (string, []byte) {
	m := r.m
	switch n := r.Intn(60); {
	case r.Intn(400) == 0:
		return "junk", pick(r, [][]byte{mainHeader, guardHeader, {0, 0, 0, 7}, sealed(0, 0, []byte{0x40}), guarded(nil), framed(0, endOf(api.Fault{}), 1), framed(1, closeOf(api.Fault{})), framed(2, peerOpen())}, nil)
	case m.peer == nil:
		return r.begins()
	case r.session() == nil || n < 2 && r.Intn(3) == 0 || r.unanswered() && n < 20:
		return r.peerBegin()
	case n < 9:
		return r.peerAttach()
	case n < 20:
		return r.peerFlow()
	case n < 44:
		return r.peerTransfer()
	case n < 54:
		return r.peerDisposition()
	case n < 56:
		p := detachOf(r.Intn(6), r.Intn(2) == 0, r.peerFault())
		if l := r.link(func(l *mLink) bool { return l.peer != nil }); l != nil && r.often() {
			p.Handle = l.remote
		}
		return r.onChannel(p)
	case n == 56 && r.Intn(3) == 0:
		return r.onChannel(endOf(r.peerFault()))
	case n == 57 && r.Intn(12) == 0:
		return "Close", framed(0, closeOf(r.peerFault()))
	}
	return "alive", sealed(api.FrameMain, r.Intn(3), nil)
}

func (r chance) peerFault() api.Fault {
	return pick(r, []api.Fault{{}, {Cond: "x"}, {Cond: "not-found", Text: "why", Info: nested(4)}}, api.Fault{})
}

// begins is what comes ahead of the peer's Open, and that.
func (r chance) begins() (string, []byte) {
	m := r.m
	if m.in.State().Header {
		awaited := m.cfg.Guarded && !m.letIn
		if awaited != (r.Intn(60) == 0) {
			return "guard's header", guardHeader
		}
		return "main header", mainHeader
	}
	if m.cfg.Guarded && !m.letIn {
		return "guard frame", guarded(r.guardBody())
	}
	if r.Intn(40) == 0 {
		return "Close", framed(0, closeOf(api.Fault{}))
	}
	p := peerOpen()
	p.MaxFrame, p.ChannelMax, p.Idle = pick(r, []int{512, 700, 2000, maxWord}, 0), r.Intn(5), pick(r, []int{-1, 0, 1, 9, 40}, 0)
	return "Open", framed(0, p)
}

// guardBody is what the other side of the guard says next, or something near it.
func (r chance) guardBody() []byte {
	m := r.m
	user := api.User{Name: "ann", Secret: "x"}
	if r.Intn(12) == 0 {
		user.Secret = "y"
	}
	mech := m.cfg.Mech
	if m.cfg.Server && m.bodies == 0 {
		mech = pick(r, []string{"open", "plain", "proof"}, "")
	} else if m.cfg.Server {
		mech = "proof"
	}
	s, c := guard.NewServer(m.cfg.Users, m.cfg.Seed), guard.NewClient(mech, user)
	row := [][]byte{s.Hello()}
	for len(row) < 5 {
		said, _ := c.On(row[len(row)-1])
		answer, _ := s.On(said)
		row = append(row, said, answer)
	}
	at := 2 * m.bodies
	if m.cfg.Server {
		at++
	}
	if r.Intn(15) == 0 {
		at = r.Intn(5)
	}
	return row[min(at, 4)]
}

func (r chance) onChannel(p api.Perform, payload ...byte) (string, []byte) {
	x := r.Intn(4)
	if s := r.session(); s != nil && s.remote >= 0 && !r.odd() {
		x = s.remote
	}
	return fmt.Sprintf("%d: %s and %d", x, told(p), len(payload)), framed(x, p, payload...)
}

// inLink is a performative on a link of the peer's; where there is none, of any.
func (r chance) inLink(l *mLink, p api.Perform, payload ...byte) (string, []byte) {
	if l == nil || r.odd() {
		return r.onChannel(p, payload...)
	}
	return fmt.Sprintf("%d: %s and %d", l.of.remote, told(p), len(payload)), framed(l.of.remote, p, payload...)
}

// unanswered tells whether a session of ours waits for the peer's Begin.
func (r chance) unanswered() bool {
	return slices.ContainsFunc(r.m.sessions, func(s *mSession) bool { return !s.gone && s.remote == -1 })
}

func (r chance) peerBegin() (string, []byte) {
	x := 0
	for x < 4 && r.m.byRemote(x) != nil && !r.odd() {
		x++
	}
	p := peerBegin(-1)
	p.InWin, p.HandleMax = r.Intn(5), pick(r, []int{0, 2, 70, maxWord}, 0)
	if s := r.session(); s != nil && (s.remote == -1 || r.odd()) {
		p.Remote = s.channel
	}
	return fmt.Sprintf("%d: %s", x, told(p)), framed(x, p)
}

func (r chance) peerAttach() (string, []byte) {
	p := attachOf(r.name(), r.Intn(4), r.Intn(2) == 0)
	r.modes(&p)
	l := r.link(func(l *mLink) bool { return l.peer == nil })
	if l != nil {
		p.Name, p.Receiver = l.name, !l.receiver
	}
	for r.m.first(r.session(), func(l *mLink) bool { return l.remote == p.Handle }) != nil && r.Intn(20) > 0 {
		p.Handle++
	}
	if r.Intn(200) == 0 {
		p.Handle = pick(r, []int{63, 64, maxWord}, 0)
	}
	if r.Intn(3) == 0 && r.m.first(r.session(), func(l *mLink) bool { return l.name == p.Name }) != nil {
		return "alive", alive // so that not too many fail by a name that was there
	}
	return r.inLink(l, p)
}

// peerFlow is a Flow that goes by how the session stands.
func (r chance) peerFlow() (string, []byte) {
	l := r.link(func(l *mLink) bool { return l.whole() && !l.receiver == (r.Intn(4) > 0) })
	s := r.session()
	if l != nil {
		s = l.of
	}
	if s == nil || s.remote == -1 {
		return "alive", alive
	}
	st := s.s.State()
	p := sessionFlow((st.NextOut-r.Intn(2)*r.Intn(2)+1<<32)%(1<<32), 2+r.Intn(8), st.NextIn, r.Intn(3))
	p.Echo = r.Intn(5) == 0
	switch {
	case r.odd():
		p.InWin, p.NextIn = 0, pick(r, []int{0, 5, maxWord, -1}, 0)
	case r.odd():
		p.NextIn = -1
	}
	if l != nil && r.Intn(4) > 0 {
		see := l.l.See()
		p = linkFlow(p, l.remote, see.Count, r.Intn(6), r.Intn(5)-1, r.Intn(4) == 0)
		if r.Intn(10) == 0 {
			p.Count, p.Credit = r.Intn(6)-1, r.Intn(6)-1
		}
	}
	if r.odd() {
		p.Handle = r.Intn(5)
	}
	return fmt.Sprintf("%d: %s", s.remote, told(p)), framed(s.remote, p)
}

// peerDisposition is most often of deliveries that are not settled.
func (r chance) peerDisposition() (string, []byte) {
	p := dispositionOf(r.Intn(2) == 0, r.Intn(4), -1, r.Intn(2) == 0, r.state(false))
	l := r.link(func(l *mLink) bool { return len(l.pending) > 0 })
	if l != nil {
		p.Receiver, p.First = !l.receiver, pick(r, l.pending, api.Pending{}).Id
		if r.Intn(8) > 0 && p.Receiver && l.peer.RcvMode == api.RcvSecond {
			p.Settled = false
		}
	}
	if r.Intn(2) == 0 {
		p.Last = max(-1, p.First+r.Intn(6)-1)
	}
	return r.inLink(l, p)
}

// peerTransfer goes on with a delivery, or begins one.
func (r chance) peerTransfer() (string, []byte) {
	hasCredit := r.Intn(30) > 0
	l := r.link(func(l *mLink) bool {
		return l.whole() && l.receiver == r.often() && (l.l.See().Credit > 0 || !hasCredit)
	})
	if l == nil {
		return "alive", alive
	}
	p := api.Perform{Kind: api.KTransfer, Handle: l.remote, DeliveryId: -1, Format: -1, More: r.Intn(3) == 0, Aborted: r.Intn(20) == 0}
	if r.Intn(4) == 0 {
		p.HasSettled, p.Settled = true, r.Intn(2) == 0
	}
	if r.Intn(5) == 0 {
		p.State = r.state(false)
	}
	unfinished := false
	if l.whole() && l.receiver {
		unfinished, _ = l.j.Held()
	}
	if !unfinished && !r.odd() {
		p.DeliveryId, p.HasTag, p.Tag, p.Format = r.Intn(1000), true, fmt.Sprint("t", r.Intn(12)), r.Intn(2)
		if r.often() {
			p.HasSettled, p.Settled = true, r.suits(l)
		}
	}
	if r.odd() {
		p.HasTag, p.Tag = true, r.tag()
		if len(p.Tag) > 32 {
			p.Tag = ""
		}
	}
	return r.inLink(l, p, filled(r.Intn(3)*r.Intn(250))...)
}

// suits is whether a delivery is settled, as the link's mode lets it be.
func (r chance) suits(l *mLink) bool {
	switch mode := l.peer.SndMode; mode {
	case api.SndOpen, api.SndSettled:
		return mode == api.SndSettled
	}
	return r.Intn(2) == 0
}

// feed is a frame of the peer's, in which now and then a bit is another one.
func (r chance) feed(name string, b []byte) done {
	b = slices.Clone(b)
	if r.Intn(600) == 0 {
		b[r.Intn(len(b))] ^= 1 << r.Intn(8)
	}
	return done{"Feed " + name, func(c calls) string { return told(c.Feed(b)) }}
}

func anyConfig(r *rand.Rand) api.ConnConfig {
	c := api.ConnConfig{Id: "a", Host: []string{"", "h"}[r.Intn(2)], Server: r.Intn(2) == 0, Guarded: r.Intn(4) == 0, Users: []api.User{{Name: "ann", Secret: "x"}}, Seed: r.Intn(9), Mech: []string{"open", "plain", "proof"}[r.Intn(3)], User: api.User{Name: "ann", Secret: "x"}}
	c.MaxFrame, c.ChannelMax, c.Idle, c.Window = []int{512, 1024, 1 << 20}[r.Intn(3)], []int{1, 3, 65535}[r.Intn(3)], []int{0, 0, 40, 40}[r.Intn(4)], []int{1, 2, 3, 4, 5, 65535}[r.Intn(6)]
	return c
}

// twin is an end and its model, which are asked the same.
type twin struct {
	chance
	c       *conn.Conn
	history []string
	met     map[string]int
}

func newTwin(t *testing.T, r *rand.Rand, met map[string]int) *twin {
	t.Helper()
	c := anyConfig(r)
	return &twin{chance{r, newModel(c)}, made(t, c), []string{told(c)}, met}
}

// do asks both, and wants one answer of them.
func (w *twin) do(t *testing.T, d done) {
	t.Helper()
	w.history = append(w.history, strings.TrimSpace(d.name))
	got, want := d.call(w.c), d.call(w.m)
	if got != want {
		t.Fatalf("%s\n%s\nwant\n%s", strings.Join(w.history, "\n"), got, want)
	}
	name, _, _ := strings.Cut(d.name, " ")
	if name != "Feed" && name != "Tick" {
		w.met[name+" "+got]++
	}
	noteEvents(w.met, got)
}

// step does something by chance.
func (w *twin) step(t *testing.T) {
	t.Helper()
	useful := w.useful()
	switch {
	case !w.m.wasOpened && w.Intn(8) > 0:
		w.do(t, done{"Open", func(c calls) string { return fmt.Sprint(c.Open()) }})
	case len(useful) > 0 && w.Intn(6) > 0:
		w.do(t, useful[w.Intn(len(useful))]())
	case w.Intn(2) == 0:
		w.do(t, w.act())
	default:
		w.do(t, w.feed(w.says()))
	}
}

// useful are ways to go on that most often do something.
func (r chance) useful() []func() done {
	var l []func() done
	add := func(is bool, d func() done) {
		if is {
			l = append(l, d)
		}
	}
	peer := func(says func() (string, []byte)) func() done { return func() done { return r.feed(says()) } }
	m := r.m
	if m.peer == nil && !m.closeOut {
		return []func() done{peer(r.begins)}
	}
	if m.closeOut && r.Intn(4) == 0 {
		return []func() done{func() done { return r.feed("Close", framed(0, closeOf(r.peerFault()))) }}
	}
	if r.session() == nil || r.unanswered() {
		return []func() done{peer(r.peerBegin), r.begin}
	}
	links := len(slices.DeleteFunc(slices.Clone(m.links), func(l *mLink) bool { return l.gone }))
	some := func(fits func(l *mLink) bool) bool {
		return slices.ContainsFunc(m.links, func(l *mLink) bool { return !l.gone && !l.detached && fits(l) })
	}
	add(links < 3 || some(func(l *mLink) bool { return l.peer == nil }), peer(r.peerAttach))
	add(links < 3 || some(func(l *mLink) bool { return l.own == nil }), r.attach)
	for _, x := range m.links {
		whole := !x.gone && !x.detached && x.whole()
		add(whole && x.receiver, r.credit)
		add(whole && x.receiver && x.l.See().Credit > 0, peer(r.peerTransfer))
		add(whole && !x.receiver, peer(r.peerFlow))
		add(whole && !x.receiver && x.l.See().Credit > 0, r.send)
		add(whole && len(x.pending) > 0, r.settle)
		add(whole && len(x.pending) > 0, peer(r.peerDisposition))
	}
	return l
}

// wantAlike wants that both tell the same, and have written the same.
func (w *twin) wantAlike(t *testing.T) {
	t.Helper()
	if got, want := seen(w.c), seen(w.m); got != want {
		t.Fatalf("%s\n%s\nwant\n%s", strings.Join(w.history, "\n"), got, want)
	}
	if got, want := w.c.Out(), w.m.Out(); string(got) != string(want) {
		t.Fatalf("%s\nOut:%s\nwant:%s", strings.Join(w.history, "\n"), lines(got), lines(want))
	}
}

// P15.1 to P15.18: any calls, any bytes of the peer's, in any order, held against the model behind each of them.
// DOC.md's R6: several ends are used in turns, each with a model of its own; they have nothing in common.
func TestAnyCalls(t *testing.T) {
	r := rand.New(rand.NewSource(15))
	met := map[string]int{}
	twins := []*twin{newTwin(t, r, met), newTwin(t, r, met)}
	for range steps {
		i := r.Intn(2)
		twins[i].step(t)
		for _, w := range twins {
			w.wantAlike(t)
		}
		if twins[i].m.isOver && r.Intn(8) == 0 {
			met["over"]++
			twins[i] = newTwin(t, r, met)
		}
	}
	wantMet(t, met)
}

const steps = 50000

// noteEvents counts the kinds of events, and the conditions of ends, in an answer's text.
func noteEvents(met map[string]int, answer string) {
	for kind := api.EvOpen; kind <= api.EvUser; kind++ {
		met[fmt.Sprint("event ", kind)] += strings.Count(answer, fmt.Sprintf("[ { Kind:%d ", kind))
	}
	for _, cond := range []string{"framing-error", "not-allowed", "unauthorized", "decode-error", "illegal-state", "idle-timeout", "resource-limit-exceeded", "invalid-field", "unattached-handle", "handle-in-use", "transfer-limit-exceeded", "message-size-exceeded"} {
		met[cond] += strings.Count(answer, fmt.Sprintf("Cond:%q", cond))
	}
}

// wantMet wants that the calls by chance came to all answers; else they would show little.
func wantMet(t *testing.T, met map[string]int) {
	t.Helper()
	want := []string{"framing-error", "not-allowed", "unauthorized", "decode-error", "illegal-state", "idle-timeout", "resource-limit-exceeded", "invalid-field", "unattached-handle", "handle-in-use", "transfer-limit-exceeded", "message-size-exceeded",
		"Open 0", "Open 4", "Open 150", "Close 0", "Close 4", "Close 150", "Close 80", "Close 2", "Begin 0 0", "Begin 1 0", "Begin 0 4", "Begin 0 150", "Begin 0 153", "End 0", "End 152", "End 80", "End 2", "End 26",
		"Attach 0 0", "Attach 1 0", "Attach 2 0", "Attach 0 1", "Attach 0 2", "Attach 0 91", "Attach 0 142", "Attach 0 152", "Attach 0 153", "Detach 0", "Detach 151", "Detach 152", "Detach 80", "Detach 2", "Detach 4", "Credit 0", "Credit 1", "Credit 4", "Credit 151", "Credit 152",
		"Send 0 0", "Send 1 0", "Send 0 4", "Send 0 2", "Send 0 80", "Send 0 120", "Send 0 122", "Send 0 140", "Send 0 141", "Send 0 142", "Send 0 151", "Send 0 152", "Drained true 0", "Drained false 0", "Drained false 4", "Drained false 151", "Drained false 152",
		"Settle 0", "Settle 2", "Settle 4", "Settle 80", "Settle 141", "Settle 143", "Settle 151", "Settle 152"}
	for kind := api.EvOpen; kind <= api.EvUser; kind++ {
		want = append(want, fmt.Sprint("event ", kind))
	}
	var few []string
	for _, w := range want {
		if met[w] < 2 {
			few = append(few, fmt.Sprint(w, ": ", met[w]))
		}
	}
	if len(few) > 0 {
		slices.Sort(few)
		t.Errorf("met too seldom: %s", strings.Join(few, "; "))
	}
}
