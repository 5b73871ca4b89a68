package store_test

import (
	"fmt"
	"math/rand"
	"strings"
	"testing"

	"longshore/api"
	"longshore/disk"
	"longshore/journal"
	"longshore/store"
)

// witness follows a store on its disk, and knows by P21.9 what a restart must tell.
type witness struct {
	d     *disk.Disk
	m     *model
	count map[int]int // of each written message the Count that counts behind a restart
}

func newWitness(t *testing.T, room int) *witness {
	t.Helper()
	d := disk.New(room)
	m, e := openModel(d)
	wantErrno(t, "Open", e, api.OK)
	return &witness{d: d, m: m, count: map[int]int{}}
}

// saw does a call, and looks which messages have come into their queues by it.
func (w *witness) saw(a asked) string {
	answer := a.call(w.m)
	if a.name == "Compact" && answer == "0" {
		clear(w.count)
	}
	for _, q := range w.m.queues {
		for _, e := range q.l {
			if _, is := w.count[e.Seq]; !is {
				w.count[e.Seq] = e.Count
			}
		}
	}
	return answer
}

// told is all that can be seen behind a restart.
func (w *witness) told() string {
	x := scene{next: 1 + highestSeq(w.d)}
	for _, q := range w.m.queues {
		if !q.c.Durable {
			continue
		}
		lasts := mQueue{c: q.c}
		for _, e := range q.l {
			if e.Durable {
				e.Count, e.Holder = w.count[e.Seq], 0
				lasts.l = append(lasts.l, e)
			}
		}
		x.queues = append(x.queues, lasts)
	}
	for _, b := range w.m.binds {
		if x.at(b.Queue) >= 0 {
			x.binds = append(x.binds, b)
		}
	}
	return told(&model{scene: x})
}

// highestSeq is the greatest one that stands in a disk's log.
func highestSeq(d *disk.Disk) int {
	data, _ := d.Read("log")
	batches, _, _ := journal.Scan(data, len(data))
	highest := 0
	for _, b := range batches {
		for _, r := range b {
			switch l, _, _ := listIn(string(r)); l[0].n {
			case 5:
				highest = max(highest, int(l[2].n))
			case 8:
				highest = max(highest, int(l[4].n))
			}
		}
	}
	return highest
}

// starting are queues among which messages may go.
func starting(r *rand.Rand) asked {
	var ops []api.Op
	for i, name := range someNames()[:4] {
		ops = append(ops, declare(api.QueueConfig{Name: name, Most: 2 + r.Intn(5), Dead: someNames()[(i+1+r.Intn(3))%4], Tries: r.Intn(3), Durable: r.Intn(4) > 0}))
	}
	return asked{"Apply", func(s calls) string { n, e := s.Apply(ops); return fmt.Sprint(e, " ", n) }}
}

// anyTrace is calls, one behind the other, from a new disk on.
func anyTrace(t *testing.T, r *rand.Rand, room int) []asked {
	t.Helper()
	w := newWitness(t, room)
	trace := []asked{starting(r)}
	w.saw(trace[0])
	for range 3 + r.Intn(25) {
		a := anyCall(r, w.m.scene)
		w.saw(a)
		trace = append(trace, a)
	}
	return trace
}

// again does a trace on a new disk, with a store or with a witness.
func again(t *testing.T, trace []asked, room int) (*disk.Disk, *store.Store) {
	t.Helper()
	d := disk.New(room)
	s := opened(t, d)
	for _, a := range trace {
		a.call(s)
	}
	return d, s
}

func seenAgain(t *testing.T, trace []asked, room int) *witness {
	t.Helper()
	w := newWitness(t, room)
	for _, a := range trace {
		w.saw(a)
	}
	return w
}

func names(trace []asked) string {
	var l []string
	for _, a := range trace {
		l = append(l, a.name)
	}
	return strings.Join(l, "\n")
}

// P21.9, and DOC.md's P0.4: at whichever act of a call the power fails, with any keep, a restart tells what is written as it was behind the calls that were answered, or behind that one; what was answered OK is there, what was refused is not.
func TestOneStroke(t *testing.T) {
	r := rand.New(rand.NewSource(214))
	met := map[string]int{}
	for range 700 {
		room := anyOf(r, 1200, 3000, maxDisk)
		trace := anyTrace(t, r, room)
		last := trace[len(trace)-1]
		ahead, behind := seenAgain(t, trace[:len(trace)-1], room).told(), seenAgain(t, trace, room).told()
		for n := -1; n < 5; n++ {
			for _, keep := range keeps() {
				d, s := again(t, trace[:len(trace)-1], room)
				d.Arm(n, keep)
				answer, _, _ := strings.Cut(last.call(s), " ")
				d.Crash(keep)
				d.Start()
				got := told(opened(t, d))
				if got != behind && (got != ahead || answer != "3") {
					t.Fatalf("%d acts, keep %d: %s, then %s\nahead of it %s\nbehind it %s\n%s", n, keep, answer, got, ahead, behind, names(trace))
				}
				if ahead != behind {
					name, _, _ := strings.Cut(last.name, " ")
					met[fmt.Sprint(name, " ", answer, " ", got == behind)]++
				}
			}
		}
	}
	for _, want := range []string{"Apply 0 true", "Apply 3 true", "Apply 3 false", "Back 3 true", "Back 3 false", "Bury 3 true", "Bury 3 false", "Expire 3 true", "Expire 3 false", "Compact 0 true", "Compact 3 false"} {
		if met[want] < 10 {
			t.Errorf("%s: only %d times", want, met[want])
		}
	}
}

// P21.9: so it is of a store that was opened again and again, with falls between calls and in them; nothing is lost on the way.
func TestManyLives(t *testing.T) {
	r := rand.New(rand.NewSource(215))
	falls := 0
	for range 250 {
		w := newWitness(t, maxDisk)
		d := disk.New(maxDisk)
		s := opened(t, d)
		first := starting(r)
		w.saw(first)
		first.call(s)
		for range 25 {
			for range r.Intn(8) {
				a := anyCall(r, w.m.scene)
				if got, want := a.call(s), w.saw(a); got != want {
					t.Fatalf("%s: %s, want %s", a.name, got, want)
				}
			}
			a, keep, ahead := anyCall(r, w.m.scene), anyOf(r, keeps()...), w.told()
			d.Arm(r.Intn(4), keep)
			a.call(s)
			fell := !d.Up()
			d.Crash(keep)
			d.Start()
			s = opened(t, d)
			if got := told(s); fell && got == ahead {
				falls++
			} else if w.saw(a); got != w.told() {
				t.Fatalf("%s: %s\nahead of it %s\nbehind it %s", a.name, got, ahead, w.told())
			}
			w = restarted(t, d)
			wantTold(t, "behind a restart", s, w.m)
		}
	}
	if falls < 500 {
		t.Errorf("only %d falls", falls)
	}
}

// restarted is a witness of what a disk has now.
func restarted(t *testing.T, d *disk.Disk) *witness {
	t.Helper()
	w := &witness{d: copied(t, d), count: map[int]int{}}
	w.m, _ = openModel(w.d)
	for _, q := range w.m.queues {
		for _, e := range q.l {
			w.count[e.Seq] = e.Count
		}
	}
	return w
}

// P21.9: what Compact changes of what a restart tells is the next number, and the Counts, alone.
func TestWhatCompactChanges(t *testing.T) {
	r := rand.New(rand.NewSource(216))
	changed := 0
	for range 1000 {
		trace := anyTrace(t, r, maxDisk)
		d, s := again(t, trace, maxDisk)
		before := behindFall(t, d)
		wantOk(t, s.Compact())
		after := behindFall(t, d)
		wantQueues(t, after, before.Queues()...)
		wantBindings(t, after, before.Bindings()...)
		highest := 0
		for _, c := range before.Queues() {
			was, is, now := before.Entries(c.Name), after.Entries(c.Name), map[int]int{}
			for _, e := range s.Entries(c.Name) {
				now[e.Seq] = e.Count
			}
			for i := range was {
				was[i].Count = now[was[i].Seq]
				highest = max(highest, was[i].Seq)
			}
			if toldEntries(was) != toldEntries(is) {
				t.Fatalf("%s, want %s\n%s", toldEntries(is), toldEntries(was), names(trace))
			}
		}
		wantNext(t, after, highest+1)
		if after.Next() != before.Next() {
			changed++
		}
	}
	if changed < 50 {
		t.Errorf("only %d next numbers changed", changed)
	}
}

// DOC.md's P0.5: what was answered OK, and was written, is there until it is removed, dies, or its time is over; what was removed does not come again.
func TestKept(t *testing.T) {
	r := rand.New(rand.NewSource(217))
	for range 60 {
		d := disk.New(maxDisk)
		s := opened(t, d)
		wantApply(t, s, declare(lasting("q", maxQueue)))
		here := map[string]bool{}
		for i := range 60 {
			e := durable(s.Next(), r.Intn(10))
			e.Data = fmt.Append(nil, "message ", i)
			d.Arm(r.Intn(10), anyOf(r, keeps()...))
			if _, err := s.Apply([]api.Op{put("q", e)}); err == api.OK {
				here[string(e.Data)] = true
			}
			if x, is := s.Take("q", 7, nil); is && r.Intn(3) == 0 {
				if _, err := s.Apply([]api.Op{remove("q", x.Seq)}); err == api.OK {
					here[string(x.Data)] = false
				}
			}
			d.Arm(-1, 0)
			if !d.Up() || r.Intn(10) == 0 {
				d.Crash(anyOf(r, keeps()...))
				d.Start()
				s = opened(t, d)
				found := map[string]int{}
				for _, e := range s.Entries("q") {
					found[string(e.Data)]++
				}
				for data, is := range here {
					if found[data] > 1 || is && found[data] == 0 && !mayHaveGone(here, data, found) || !is && found[data] > 0 {
						t.Fatalf("%s: %t, found %d times", data, is, found[data])
					}
				}
				// What was under way when the power failed is what it is now.
				here = map[string]bool{}
				for data := range found {
					here[data] = true
				}
			}
		}
	}
}

// mayHaveGone tells whether a message is the only one that is missed: its going was under way.
func mayHaveGone(here map[string]bool, data string, found map[string]int) bool {
	for other, is := range here {
		if other != data && is && found[other] == 0 {
			return false
		}
	}
	return true
}
