package disk_test

import (
	"fmt"
	"math/rand"
	"slices"
	"strings"
	"testing"

	"longshore/api"
	"longshore/disk"
)

// asked is a call with its arguments.
type asked struct {
	name string
	call func(d calls) string
}

func anyOf[T any](r *rand.Rand, l ...T) T { return l[r.Intn(len(l))] }

// anyName is mostly one of few names.
func anyName(r *rand.Rand) string {
	switch r.Intn(25) {
	case 0:
		return anyOf(r, badNames()...)
	case 1:
		return anyOf(r, goodNames()...)
	}
	return anyOf(r, "a", "b", "c.d", "log")
}

// anyBytes are mostly few; no two of them are alike by chance for long.
func anyBytes(r *rand.Rand) []byte {
	b := make([]byte, r.Intn(anyOf(r, 1, 3, 8, 30)))
	r.Read(b)
	return b
}

func anyKeep(r *rand.Rand) int { return anyOf(r, -1, 0, 1, 2, 3, 5, 9, 1<<62) }

// anyChange is a call that may change a disk, with arguments by chance.
func anyChange(r *rand.Rand) asked {
	name, to, keep := anyName(r), anyName(r), anyKeep(r)
	number := func(what string, f func(d calls) api.Errno) asked {
		return asked{what, func(d calls) string { return fmt.Sprint(f(d)) }}
	}
	switch r.Intn(20) {
	case 0, 1, 2, 3, 4, 5, 6:
		b := anyBytes(r)
		return number(fmt.Sprintf("Append %q %q", name, b), func(d calls) api.Errno { return d.Append(name, b) })
	case 7, 8, 9, 10:
		return number("Sync "+brief(name), syncing(name))
	case 11, 12, 13:
		return number("Rename "+brief(name)+" "+brief(to), renaming(name, to))
	case 14, 15:
		return number("Delete "+brief(name), deleting(name))
	case 16:
		n := anyOf(r, -1, 0, 1, 2, 4, 8)
		return asked{fmt.Sprint("Arm ", n, " ", keep), func(d calls) string { d.Arm(n, keep); return "" }}
	case 17:
		return asked{fmt.Sprint("Crash ", keep), func(d calls) string { d.Crash(keep); return "" }}
	}
	return asked{"Start", func(d calls) string { d.Start(); return "" }}
}

// anyCall is any call.
func anyCall(r *rand.Rand) asked {
	name := anyName(r)
	switch r.Intn(10) {
	case 0:
		return asked{"Read " + brief(name), func(d calls) string { b, e := d.Read(name); return fmt.Sprintf("%q %d", b, e) }}
	case 1:
		return anyOf(r, asked{"Files", func(d calls) string { return told(d.Files()) }}, asked{"Up", func(d calls) string { return fmt.Sprint(d.Up()) }})
	}
	return anyChange(r)
}

// anyFiles are files that may be on a disk, or nearly so.
func anyFiles(r *rand.Rand) []api.File {
	var l []api.File
	for range r.Intn(4) {
		f := api.File{Name: anyName(r), Data: anyBytes(r)}
		f.Safe = r.Intn(len(f.Data) + 1)
		if r.Intn(20) == 0 {
			f.Safe = anyOf(r, -1, len(f.Data)+1)
		}
		l = append(l, f)
	}
	return l
}

// pair is a disk and the model that is held against it.
type pair struct {
	d *disk.Disk
	m *model
}

// anyPair is made by New or by Load, which answer the same of both.
func anyPair(t *testing.T, r *rand.Rand) pair {
	t.Helper()
	for {
		room := anyOf(r, 0, 5, 20, 60, 1000, maxDisk)
		if r.Intn(2) == 0 {
			return pair{made(t, room), newModel(room)}
		}
		files := anyFiles(r)
		d, e := disk.Load(files, room)
		m, want := loadModel(files, room)
		if e != want || (d != nil) != (m != nil) {
			t.Fatalf("Load(%s, %d): %d, want %d", told(files), room, e, want)
		}
		if d != nil {
			return pair{d, m}
		}
	}
}

// P19.1 to P19.9: any calls in any order, held against the model behind each of them.
// Two disks have nothing in common: several are used in turns, each with a model of its own.
func TestAnyCalls(t *testing.T) {
	r := rand.New(rand.NewSource(191))
	for range 400 {
		pairs := []pair{anyPair(t, r), anyPair(t, r), anyPair(t, r)}
		for range 150 {
			p := anyOf(r, pairs...)
			a := anyCall(r)
			before := told(p.m.Files())
			if got, want := a.call(p.d), a.call(p.m); got != want {
				t.Fatalf("%s: %s, want %s, where %s", a.name, got, want, before)
			}
			for _, p := range pairs {
				if p.d.Up() != p.m.Up() || told(p.d.Files()) != told(p.m.Files()) {
					t.Fatalf("behind %s: %v %s, want %v %s", a.name, p.d.Up(), told(p.d.Files()), p.m.Up(), told(p.m.Files()))
				}
			}
		}
		for _, p := range pairs {
			if got, want := probed(p.d), probed(p.m); got != want {
				t.Fatalf("%s, want %s", got, want)
			}
		}
	}
}

// The calls by chance come to all answers; else they would show little.
func TestAnyCallsComeToAll(t *testing.T) {
	r := rand.New(rand.NewSource(192))
	met := map[string]int{}
	for range 400 {
		m := anyPair(t, r).m
		for range 100 {
			a := anyCall(r)
			up := m.Up()
			name, _, _ := strings.Cut(a.name, " ")
			answer := a.call(m)
			if name == "Read" {
				answer = answer[strings.LastIndex(answer, " ")+1:]
			}
			if slices.Contains([]string{"Append", "Sync", "Rename", "Delete"}, name) && up != m.Up() {
				answer += " falls"
			}
			met[name+" "+answer]++
		}
	}
	for _, want := range []string{"Append 0", "Append 1", "Append 3", "Append 190", "Append 3 falls", "Sync 0", "Sync 1", "Sync 3", "Sync 191", "Sync 3 falls", "Rename 0", "Rename 1", "Rename 3", "Rename 191", "Rename 192", "Rename 3 falls", "Delete 0", "Delete 1", "Delete 3", "Delete 191", "Delete 3 falls", "Read 0", "Read 1", "Read 3", "Read 191"} {
		if met[want] < 20 {
			t.Errorf("%s: only %d times", want, met[want])
		}
	}
}

// P19.1: Load of any files answers what the model's does.
func TestAnyLoad(t *testing.T) {
	r := rand.New(rand.NewSource(193))
	met := map[api.Errno]int{}
	for range 5000 {
		files, room := anyFiles(r), anyOf(r, -1, 0, 5, 20, 30, maxDisk, maxDisk+1)
		d, e := disk.Load(files, room)
		m, want := loadModel(files, room)
		if e != want || (d != nil) != (m != nil) {
			t.Fatalf("Load(%s, %d): %d, want %d", told(files), room, e, want)
		}
		met[want]++
		if d != nil && seen(d) != seen(m) {
			t.Fatalf("Load(%s, %d): %s, want %s", told(files), room, seen(d), seen(m))
		}
	}
	if met[api.OK] < 100 || met[api.ErrArg] < 100 || met[api.ErrDiskFull] < 100 {
		t.Errorf("only %v", met)
	}
}

// DOC.md's R6: the same calls have the same answers, however often the map of files is gone through.
func TestSameAgain(t *testing.T) {
	for seed := range 40 {
		var first string
		for range 4 {
			r := rand.New(rand.NewSource(int64(seed)))
			d := made(t, 60)
			s := ""
			for range 60 {
				s += anyCall(r).call(d) + told(d.Files()) + "\n"
			}
			if first == "" {
				first = s
			}
			if s != first {
				t.Fatalf("%s, first: %s", s, first)
			}
		}
	}
}
