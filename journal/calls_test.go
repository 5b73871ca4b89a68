package journal_test

import (
	"fmt"
	"math/rand"
	"strings"
	"testing"

	"longshore/api"
	"longshore/disk"
	"longshore/journal"
)

// pair is a disk with its journal, and another one with the model that is held against it.
type pair struct {
	d, twin *disk.Disk
	j       calls // nil as long as none was opened
	m       calls
	old     [][2]calls // those ahead of it that are down, each with its model
}

// anyPair is two disks that are alike: new ones, or such with any log, of which any part is safe.
func anyPair(t *testing.T, r *rand.Rand) *pair {
	t.Helper()
	for {
		room := anyOf(r, 40, 80, 120, 300, 2000)
		var files []api.File
		if r.Intn(3) > 0 {
			s := anyLog(r)
			files = append(files, file("log", s, anyOf(r, 0, len(s), r.Intn(len(s)+1))))
		}
		if r.Intn(3) == 0 {
			files = append(files, file("log.new", string(anyBytes(r, 30)), 0))
		}
		if r.Intn(2) == 0 { // another file takes the room, till it is deleted
			left := room
			for _, f := range files {
				left -= len(f.Data)
			}
			files = append(files, safeFile("x", string(aRecord(max(left-r.Intn(20), 0)))))
		}
		d, e := disk.Load(files, room)
		if e == api.OK {
			return &pair{d: d, twin: loaded(t, room, files...)}
		}
	}
}

// answers are what the journal and the model have said.
type answers struct {
	name, got, want string
	fell            bool // whether the power failed in it
}

// any is any call, made on both.
func (p *pair) any(r *rand.Rand) answers {
	n := r.Intn(20)
	switch {
	case n < 6 && p.j != nil && p.hasTail(): // there is room to cut it now
		p.both("", deleting("x"))
		n = 19
	case n < 6 && !p.d.Up(): // taken up again, with a power that may fail soon
		acts, keep := r.Intn(8)-2, anyOf(r, keeps()...)
		p.both("", func(d *disk.Disk) api.Errno { d.Start(); d.Arm(acts, keep); return 0 })
		n = 0
	}
	switch {
	case n < 2 || p.j == nil:
		return p.open()
	case n < 4:
		acts, keep := r.Intn(8)-1, anyOf(r, keeps()...)
		return p.both(fmt.Sprint("Arm ", acts, " ", keep), func(d *disk.Disk) api.Errno { d.Arm(acts, keep); return 0 })
	case n < 5:
		keep := anyOf(r, keeps()...)
		return p.both(fmt.Sprint("Crash ", keep), func(d *disk.Disk) api.Errno { d.Crash(keep); return 0 })
	case n < 8:
		return p.both("Start", func(d *disk.Disk) api.Errno { d.Start(); return 0 })
	case n < 10:
		b := anyBytes(r, 60)
		return p.both("other Append", appending("x", string(b)))
	case n < 12:
		return p.both("other Delete", deleting("x"))
	case n < 14 && len(p.old) > 0:
		old := anyOf(r, p.old...)
		w := anyAsk(r)
		return answers{"old " + w.name, fmt.Sprint(w.call(old[0]), old[0].Size()), fmt.Sprint(w.call(old[1]), old[1].Size()), false}
	}
	w, up := anyAsk(r), p.twin.Up()
	a := answers{name: w.name, got: fmt.Sprint(w.call(p.j), " ", p.j.Size()), want: fmt.Sprint(w.call(p.m), " ", p.m.Size())}
	a.fell = up && !p.twin.Up()
	if strings.HasPrefix(a.want, "3 ") {
		p.old = append(p.old, [2]calls{p.j, p.m})
	}
	return a
}

// hasTail tells whether a tail stands in the log.
func (p *pair) hasTail() bool {
	f, _ := named(p.twin, "log")
	_, end, _ := scanModel(string(f.Data), 0)
	return end < len(f.Data)
}

// open opens both; the journal that there was is asked no more, unless it was down already.
func (p *pair) open() answers {
	up := p.twin.Up()
	j, l, e := journal.Open(p.d)
	m, want, number := openModel(p.twin)
	a := answers{"Open", fmt.Sprint(e, " ", j != nil, " ", told(l)), fmt.Sprint(number, " ", m != nil, " ", told(want)), up && !p.twin.Up()}
	if j != nil && m != nil {
		p.j, p.m = j, m
		a.got += fmt.Sprint(" ", j.Size())
		a.want += fmt.Sprint(" ", m.Size())
	}
	return a
}

func (p *pair) both(name string, do act) answers {
	return answers{name, fmt.Sprint(do(p.d)), fmt.Sprint(do(p.twin)), false}
}

var tooLong = aRecord(maxRecord + 1)

// anyAsk is mostly an Add or a Shorten that may be; sometimes of nothing, of what is no record, or of too much.
func anyAsk(r *rand.Rand) write {
	bad := anyOf(r, nil, []byte{}, tooLong)
	great := aRecord(anyOf(r, 30, 100, 400))
	switch r.Intn(12) {
	case 0:
		return write{name: "Add()", call: adding()}
	case 1:
		return write{name: "Add of no record", call: func(j calls) api.Errno { return j.Add(great, bad) }}
	case 2:
		return write{name: "Shorten to no record", call: func(j calls) api.Errno { return j.Shorten([][][]byte{nil, {great}, {bad}}) }}
	case 3:
		return write{name: "Add of much", call: func(j calls) api.Errno { return j.Add(great, great) }}
	case 4:
		return write{name: "Shorten to much", call: func(j calls) api.Errno { return j.Shorten([][][]byte{{great}, nil, {great}}) }}
	}
	return anyWrite(r)
}

// P20.2 to P20.5, P20.8: any calls in any order, with falls at any acts, held against the model and its disk behind each of them.
// Two journals of two disks have nothing in common: several are used in turns.
func TestAnyCalls(t *testing.T) {
	r := rand.New(rand.NewSource(203))
	met := map[string]int{}
	for range 2000 {
		pairs := []*pair{anyPair(t, r), anyPair(t, r), anyPair(t, r)}
		var trace []string
		for range 120 {
			n := r.Intn(len(pairs))
			p := pairs[n]
			before := seen(p.d)
			a := p.any(r)
			trace = append(trace, fmt.Sprint(n, ": ", a.name, " ", a.got))
			if a.got != a.want || seen(p.d) != seen(p.twin) {
				t.Fatalf("%s, want %s: %s, want %s, before: %s\n%s", a.got, a.want, seen(p.d), seen(p.twin), before, strings.Join(trace, "\n"))
			}
			name, _, _ := strings.Cut(a.name, " ")
			number, _, _ := strings.Cut(a.want, " ")
			met[name+" "+number]++
			if a.fell {
				met[name+" falls"]++
			}
		}
		for _, p := range pairs {
			if got, want := probed(p.d), probed(p.twin); got != want {
				t.Fatalf("%s, want %s\n%s", got, want, strings.Join(trace, "\n"))
			}
		}
	}
	for _, want := range []string{"Open 0", "Open 3", "Open 201", "Open falls", "Add 0", "Add 3", "Add 190", "Add falls", "Add() 0", "Add() 3", "Add 200", "Shorten 0", "Shorten 3", "Shorten 190", "Shorten 200", "Shorten falls", "old 3"} {
		if met[want] < 100 {
			t.Errorf("%s: only %d times", want, met[want])
		}
	}
}

// P20.2 to P20.4: the calls by chance come to each act at which the power may fail.
func TestAnyCallsComeToAll(t *testing.T) {
	r := rand.New(rand.NewSource(204))
	tails, cuts, stays := 0, 0, 0
	for range 1500 {
		p := anyPair(t, r)
		for range 60 {
			f, _ := named(p.twin, "log")
			tail := p.hasTail()
			a := p.any(r)
			g, _ := named(p.twin, "log")
			if tail && strings.HasPrefix(a.name, "Add") {
				tails++
				if strings.HasPrefix(a.want, "0") && a.name != "Add()" {
					cuts++
				}
			}
			if tail && a.name == "Open" && strings.HasPrefix(a.want, "0") && len(g.Data) == len(f.Data) {
				stays++
			}
		}
	}
	if tails < 300 || cuts < 30 || stays < 30 {
		t.Errorf("only %d Adds to a tail, %d cuts, %d Opens without room", tails, cuts, stays)
	}
}

// DOC.md's R6: the same calls have the same answers.
func TestSameAgain(t *testing.T) {
	for seed := range 60 {
		var first string
		for range 3 {
			r := rand.New(rand.NewSource(int64(seed)))
			p := anyPair(t, r)
			s := ""
			for range 60 {
				s += p.any(r).got + seen(p.d) + "\n"
			}
			if first == "" {
				first = s
			}
			if s != first {
				t.Fatalf("%s, first: %s", s, first)
			}
		}
	}
}

// P20.8: two journals of two disks have nothing in common: what one does, and that it is down, is not seen at the other.
func TestTwoJournals(t *testing.T) {
	files := []api.File{safeFile("log", log("a"))}
	a, b := loaded(t, 100, files...), loaded(t, 100, files...)
	j, k := wantOpen(t, a, "a"), wantOpen(t, b, "a")
	wantOk(t, j.Add([]byte("b")), k.Add([]byte("c")), j.Add([]byte("d")), k.Shorten(list("e f")), j.Add([]byte("g")))
	wantSize(t, j, 68)
	wantSize(t, k, 22)
	a.Crash(0)
	wantErrno(t, "Add", j.Add([]byte("h")), api.ErrDown)
	wantOk(t, k.Add([]byte("i")))
	wantDown(t, j)
	wantLog(t, a, []string{"a", "b", "d", "g"})
	wantLog(t, b, []string{"e f", "i"})
}
