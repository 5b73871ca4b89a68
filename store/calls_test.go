package store_test

import (
	"bytes"
	"fmt"
	"math/rand"
	"strings"
	"testing"

	"longshore/api"
	"longshore/disk"
	"longshore/store"
)

func anyOf[T any](r *rand.Rand, l ...T) T { return l[r.Intn(len(l))] }

// someNames are those of queues and of dead ones; a queue of the last one is never made.
func someNames() []string { return []string{"a", "b", "dead", "q", "q.r", "x"} }

func anyName(r *rand.Rand) string { return anyOf(r, someNames()...) }

func anyConfig(r *rand.Rand) api.QueueConfig {
	c := api.QueueConfig{Name: anyOf(r, someNames()[:5]...), Most: 1 + r.Intn(4), Tries: r.Intn(4), Durable: r.Intn(3) > 0}
	if r.Intn(3) > 0 {
		c.Dead = anyName(r)
	}
	switch r.Intn(25) {
	case 0:
		c.Most = anyOf(r, 0, -1, maxQueue, maxQueue+1)
	case 1:
		c.Name = anyOf(r, "", "Q", "q q")
	case 2:
		c.Tries = anyOf(r, -1, maxWord, maxWord+1)
	}
	return c
}

// anyEntry is mostly one that may be; its number is a little beside the next one now and then.
func anyEntry(r *rand.Rand, next int) api.Entry {
	e := api.Entry{Seq: next, Priority: r.Intn(10), Expiry: r.Intn(20) - 1, Durable: r.Intn(3) > 0, Count: r.Intn(3), Data: make([]byte, r.Intn(6))}
	r.Read(e.Data)
	switch r.Intn(30) {
	case 0:
		e.Seq += anyOf(r, -1, 1, 1<<40, -1<<62)
	case 1:
		e.Priority = anyOf(r, -1, 10)
	case 2:
		e.Expiry = anyOf(r, -2, maxTime, maxTime+1)
	case 3:
		e.Count = anyOf(r, -1, maxWord, maxWord+1, 300)
	case 4:
		e.Holder = anyOf(r, -1, 1)
	case 5:
		e.Data = bytes.Repeat([]byte("long"), 60)
	}
	return e
}

// anyMessage is one that is there, mostly, with its queue.
func anyMessage(r *rand.Rand, x *scene) (string, api.Entry) {
	if len(x.queues) == 0 || r.Intn(8) == 0 {
		return anyName(r), api.Entry{Seq: r.Intn(x.next%1000+2) - 1, Holder: r.Intn(3)}
	}
	q := x.queues[r.Intn(len(x.queues))]
	if len(q.l) == 0 {
		return q.c.Name, api.Entry{Seq: x.next - 1}
	}
	return q.c.Name, q.l[r.Intn(len(q.l))]
}

func anyQueue(r *rand.Rand, x *scene) string {
	if len(x.queues) == 0 || r.Intn(10) == 0 {
		return anyName(r)
	}
	return x.queues[r.Intn(len(x.queues))].c.Name
}

// anyOp is an operation, such as is mostly done where the scene is like this.
func anyOp(r *rand.Rand, x *scene) api.Op {
	binding := api.Binding{Pattern: anyOf(r, "a", "a.*", "#", "b.#", "*"), Queue: anyQueue(r, x)}
	if len(x.binds) > 0 && r.Intn(2) == 0 {
		binding = x.binds[r.Intn(len(x.binds))]
	}
	switch n := r.Intn(40); {
	case n < 5:
		return declare(anyConfig(r))
	case n < 6:
		return gone(anyQueue(r, x))
	case n < 9:
		return bind(anyOf(r, "a", "a.*", "#", "b.#", "*", "", "#.#.#"), anyQueue(r, x))
	case n < 11:
		return unbind(binding.Pattern, binding.Queue)
	case n < 30:
		return put(anyQueue(r, x), anyEntry(r, x.next))
	case n < 39:
		queue, e := anyMessage(r, x)
		return remove(queue, e.Seq)
	}
	return api.Op{Kind: anyOf(r, 0, 7, 8, 9, -1), Queue: anyName(r), To: anyName(r), Seq: 1, Entry: anyEntry(r, x.next)}
}

// anyOps are some, each such as is done behind those ahead of it.
func anyOps(r *rand.Rand, now scene) []api.Op {
	x := now.copied()
	var ops []api.Op
	for range anyOf(r, 0, 1, 1, 1, 2, 3, 6) {
		op := anyOp(r, &x)
		x.do(op)
		ops = append(ops, op)
	}
	return ops
}

// asked is a call with its arguments.
type asked struct {
	name string
	call func(s calls) string
}

// anyFits is nothing, or a fits that says true of some, notes what it was asked of, and overwrites that.
func anyFits(r *rand.Rand) func(note *strings.Builder) func(api.Entry) bool {
	kind, n := r.Intn(4), r.Intn(10)
	if kind == 0 {
		return func(*strings.Builder) func(api.Entry) bool { return nil }
	}
	return func(note *strings.Builder) func(api.Entry) bool {
		return func(e api.Entry) bool {
			note.WriteString(" asked of " + toldEntry(e))
			clear(e.Data[:cap(e.Data)])
			return kind == 1 || kind == 2 && e.Priority > n || kind == 3 && e.Seq%3 == n%3
		}
	}
}

// anyCall is a call with arguments by chance, most of them such as do something where the scene is like this.
func anyCall(r *rand.Rand, x scene) asked {
	queue, e := anyMessage(r, &x)
	holder := 1 + r.Intn(3)
	if r.Intn(20) == 0 {
		holder = anyOf(r, 0, -1, 1<<40)
	}
	switch n := r.Intn(40); {
	case n < 14:
		ops := anyOps(r, x)
		return asked{fmt.Sprintf("Apply %+v", ops), func(s calls) string { n, e := s.Apply(ops); return fmt.Sprint(e, " ", n) }}
	case n < 20:
		queue, fits := anyQueue(r, &x), anyFits(r)
		return asked{fmt.Sprint("Take ", queue, " ", holder), func(s calls) string {
			var note strings.Builder
			e, is := s.Take(queue, holder, fits(&note))
			return fmt.Sprint(is, " ", toldEntry(e), note.String())
		}}
	case n < 22:
		queue, fits := anyQueue(r, &x), anyFits(r)
		return asked{fmt.Sprint("Peek ", queue, " ", e.Seq-1), func(s calls) string {
			var note strings.Builder
			e, is := s.Peek(queue, e.Seq-1, fits(&note))
			return fmt.Sprint(is, " ", toldEntry(e), note.String())
		}}
	case n < 29:
		if r.Intn(8) > 0 {
			queue, e = anyHeld(r, x, queue, e)
			holder = e.Holder
		}
		failed := r.Intn(4) > 0
		return asked{fmt.Sprint("Back ", queue, " ", e.Seq, " ", holder, " ", failed), func(s calls) string { return fmt.Sprint(s.Back(queue, e.Seq, holder, failed)) }}
	case n < 32:
		if r.Intn(8) > 0 {
			queue, e = anyHeld(r, x, queue, e)
			holder = e.Holder
		}
		return asked{fmt.Sprint("Bury ", queue, " ", e.Seq, " ", holder), func(s calls) string { return fmt.Sprint(s.Bury(queue, e.Seq, holder)) }}
	case n < 33:
		return asked{fmt.Sprint("Release ", holder), func(s calls) string { return fmt.Sprint(s.Release(holder)) }}
	case n < 36:
		now := r.Intn(16) - 2
		return asked{fmt.Sprint("Expire ", now), func(s calls) string { n, e := s.Expire(now); return fmt.Sprint(e, " ", n) }}
	case n < 38:
		topic := anyOf(r, "a", "a.b", "b", "b.c.d", "", "*")
		return asked{"Match " + topic, func(s calls) string { l, e := s.Match(topic); return fmt.Sprint(e, l, s.Bindings()) }}
	}
	return asked{"Compact", func(s calls) string { return fmt.Sprint(s.Compact()) }}
}

// anyHeld is a message that is held, if there is one.
func anyHeld(r *rand.Rand, x scene, queue string, e api.Entry) (string, api.Entry) {
	for range 20 {
		if queue, e := anyMessage(r, &x); e.Holder > 0 {
			return queue, e
		}
	}
	return queue, e
}

// pair is a disk with its store, and another one with the model that is held against it.
type pair struct {
	d, twin *disk.Disk
	s       calls
	m       *model
}

func anyPair(t *testing.T, r *rand.Rand) *pair {
	t.Helper()
	room := anyOf(r, 500, 1000, 5000, 100000)
	p := &pair{d: disk.New(room), twin: disk.New(room)}
	if got, want := p.open(); got != want {
		t.Fatalf("%s, want %s", got, want)
	}
	if r.Intn(4) == 0 {
		return p
	}
	var ops []api.Op
	for _, name := range someNames()[:4] {
		ops = append(ops, declare(api.QueueConfig{Name: name, Most: 2 + r.Intn(6), Dead: anyOf(r, "dead", "", "x", "a", "q"), Tries: r.Intn(3), Durable: r.Intn(3) > 0}))
		if ops[len(ops)-1].Config.Dead == name {
			ops[len(ops)-1].Config.Dead = "b"
		}
	}
	for _, c := range []calls{p.s, p.m} {
		wantApply(t, c, ops...)
	}
	return p
}

// open opens both anew.
func (p *pair) open() (string, string) {
	s, e := store.Open(p.d)
	m, want := openModel(p.twin)
	if s != nil && m != nil {
		p.s, p.m = s, m
	}
	return fmt.Sprint(e, " ", s != nil), fmt.Sprint(want, " ", m != nil)
}

// power does something to both disks.
func (p *pair) power(r *rand.Rand) string {
	acts, keep := r.Intn(8)-1, anyOf(r, keeps()...)
	name, do := "Start", func(d *disk.Disk) { d.Start() }
	switch r.Intn(8) {
	case 0, 1, 2:
		name, do = fmt.Sprint("Arm ", acts, " ", keep), func(d *disk.Disk) { d.Arm(acts, keep) }
	case 3:
		name, do = fmt.Sprint("Crash ", keep), func(d *disk.Disk) { d.Crash(keep) }
	case 4:
		b := make([]byte, r.Intn(200))
		name, do = "other Append", func(d *disk.Disk) { d.Append("x", b) }
	case 5:
		name, do = "other Delete", func(d *disk.Disk) { d.Delete("x") }
	}
	do(p.d)
	do(p.twin)
	return name
}

// any is any call, or any act, on both: what it was, and what was answered. A disk that is down is mostly taken up again.
func (p *pair) any(r *rand.Rand) (string, string, string) {
	n := r.Intn(30)
	switch {
	case !p.twin.Up() && n < 12: // taken up again, with a power that may fail soon
		acts, keep := r.Intn(12)-7, anyOf(r, keeps()...)
		for _, d := range []*disk.Disk{p.d, p.twin} {
			d.Start()
			d.Arm(acts, keep)
		}
		got, want := p.open()
		return "Open behind Start", got, want
	case !p.twin.Up() && n < 15: // and the old store goes on
		p.d.Start()
		p.twin.Start()
		return "Start", "", ""
	case n < 1:
		got, want := p.open()
		return "Open", got, want
	case n < 4:
		return p.power(r), "", ""
	}
	a := anyCall(r, p.m.scene)
	return a.name, a.call(p.s), a.call(p.m)
}

// P21.1 to P21.8: any calls in any order, with falls at any acts and restarts, held against the model and its disk behind each of them.
// Two stores of two disks have nothing in common: several are used in turns.
func TestAnyCalls(t *testing.T) {
	r := rand.New(rand.NewSource(211))
	met := map[string]int{}
	for range 800 {
		pairs := []*pair{anyPair(t, r), anyPair(t, r)}
		var trace []string
		for range 300 {
			n := r.Intn(len(pairs))
			p := pairs[n]
			up := p.twin.Up()
			name, got, want := p.any(r)
			trace = append(trace, fmt.Sprint(n, ": ", name, " ", got))
			if got != want || told(p.s) != told(p.m) || seen(p.d) != seen(p.twin) {
				t.Fatalf("%s, want %s: %s\nwant %s\n%s\nwant %s\n%s", got, want, told(p.s), told(p.m), seen(p.d), seen(p.twin), strings.Join(trace, "\n"))
			}
			first, _, _ := strings.Cut(name, " ")
			number, _, _ := strings.Cut(want, " ")
			met[first+" "+number]++
			if up && !p.twin.Up() {
				met[first+" falls"]++
			}
		}
		for _, p := range pairs {
			if got, want := probed(p.d), probed(p.twin); got != want {
				t.Fatalf("%s, want %s\n%s", got, want, strings.Join(trace, "\n"))
			}
		}
	}
	for _, want := range []string{
		"Open 0", "Open 3", "Apply 0", "Apply 3", "Apply 170", "Apply 171", "Apply 172", "Apply 180", "Apply 181", "Apply 182", "Apply 190", "Apply 210", "Apply 211", "Apply 212", "Apply falls",
		"Take true", "Take false", "Peek true", "Peek false", "Back 0", "Back 3", "Back 171", "Back 210", "Back 190", "Back falls", "Bury 0", "Bury 3", "Bury 171", "Bury 210", "Bury 190", "Bury falls",
		"Release 0", "Release 3", "Expire 0", "Expire 3", "Expire 190", "Expire falls", "Match 0[a", "Match 82", "Compact 0", "Compact 3", "Compact 190", "Compact falls",
	} {
		if n := met[want]; n < 20 && !strings.Contains(want, "[") {
			t.Errorf("%s: only %d times", want, n)
		}
	}
}

// P21.5: the calls by chance come to each way in which a message is buried.
func TestAnyCallsComeToAll(t *testing.T) {
	r := rand.New(rand.NewSource(212))
	met := map[string]int{}
	for range 1500 {
		p := anyPair(t, r)
		for range 150 {
			before, files := p.m.scene.copied(), p.d.Files()
			name, _, want := p.any(r)
			if want != "0" || !strings.HasPrefix(name, "Bury") && !strings.HasPrefix(name, "Back") {
				continue
			}
			more, numbers := "nothing", p.m.next-before.next
			if f := p.d.Files(); toldFiles(f) != toldFiles(files) {
				more = "a record"
			}
			met[fmt.Sprint(name[:4], " ", more, " ", numbers)]++
		}
	}
	for _, want := range []string{"Back nothing 0", "Back nothing 1", "Back a record 0", "Back a record 1", "Bury nothing 0", "Bury nothing 1", "Bury a record 0", "Bury a record 1"} {
		if met[want] < 20 {
			t.Errorf("%s: only %d times", want, met[want])
		}
	}
}

// DOC.md's R6: the same calls have the same answers, however goroutines run and maps are gone through.
func TestSameAgain(t *testing.T) {
	for seed := range 60 {
		var first string
		for range 3 {
			r := rand.New(rand.NewSource(int64(seed)))
			p := anyPair(t, r)
			var s strings.Builder
			for range 150 {
				name, got, _ := p.any(r)
				s.WriteString(name + " " + got + seen(p.d) + told(p.s) + "\n")
			}
			if first == "" {
				first = s.String()
			}
			if s.String() != first {
				t.Fatalf("%s, first: %s", s.String(), first)
			}
		}
	}
}

// anyLog is the records that any calls have written, batch by batch.
func anyLog(r *rand.Rand) [][]string {
	x := scene{next: 1}
	var log [][]string
	for range 1 + r.Intn(25) {
		var records []string
		for range 1 + r.Intn(3) {
			record := ""
			if at := r.Intn(len(x.queues) + 1); r.Intn(4) == 0 && at < len(x.queues) && len(x.queues[at].l) > 0 {
				record = x.bury(at, r.Intn(len(x.queues[at].l)))
			} else {
				record, _ = x.doIfMay(anyOp(r, &x))
			}
			if record != "" {
				records = append(records, record)
			}
		}
		log = append(log, records)
	}
	return log
}

// doIfMay does an operation, or nothing.
func (x *scene) doIfMay(op api.Op) (string, api.Errno) {
	y := x.copied()
	record, e := y.do(op)
	if e != 0 {
		return "", e
	}
	*x = y
	return record, 0
}

// spoiled is a log with something wrong in its records, or such as may be all the same.
func spoiled(r *rand.Rand, log [][]string) [][]string {
	at := r.Intn(len(log))
	if len(log[at]) == 0 {
		return log
	}
	k := r.Intn(len(log[at]))
	b := []byte(log[at][k])
	i := r.Intn(len(b))
	switch r.Intn(8) {
	case 0, 1, 2:
		b[i] = byte(r.Intn(256))
	case 3:
		b[i] += byte(anyOf(r, 1, 255))
	case 4:
		b = append(b, byte(r.Intn(256)))
	case 5:
		b = b[:i+1]
	case 6:
		log[at] = append(log[at][:k:k], log[at][k+1:]...)
		return log
	case 7:
		other := log[r.Intn(len(log))]
		if len(other) > 0 {
			b = []byte(other[r.Intn(len(other))])
		}
	}
	log[at][k] = string(b)
	return log
}

// P21.1: of any log, right or wrong, Open says what the model says.
func TestAnyLog(t *testing.T) {
	r := rand.New(rand.NewSource(213))
	met := map[string]int{}
	for range 30000 {
		log := anyLog(r)
		for range r.Intn(3) {
			log = spoiled(r, log)
		}
		d, twin := withLog(t, log...), withLog(t, log...)
		s, e := store.Open(d)
		m, want := openModel(twin)
		if e != want || (s == nil) != (m == nil) || seen(d) != seen(twin) {
			t.Fatalf("Open of %q: %d, want %d", log, e, want)
		}
		if s != nil {
			wantTold(t, fmt.Sprintf("Open of %q", log), s, m)
		}
		met[fmt.Sprint(e)]++
	}
	if met["0"] < 5000 || met["213"] < 5000 {
		t.Errorf("%v", met)
	}
}
