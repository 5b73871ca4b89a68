package disk_test

import (
	"fmt"
	"math/rand"
	"strings"
	"testing"

	"longshore/api"
	"longshore/disk"
)

// byName are files by their names.
func byName(l []api.File) map[string]api.File {
	m := map[string]api.File{}
	for _, f := range l {
		m[f.Name] = f
	}
	return m
}

// taken tells which names a call may take files away from.
func taken(a asked) string {
	if strings.HasPrefix(a.name, "Rename") || strings.HasPrefix(a.name, "Delete") {
		return a.name
	}
	return ""
}

// P19.10: what was safe is there, whatever falls: each file that no Rename and no Delete has taken away begins with the bytes that were safe.
// Behind a fall each file is a beginning of what it was ahead of it, all of it safe, and there are the same files.
func TestSafeStays(t *testing.T) {
	r := rand.New(rand.NewSource(194))
	falls, kept := 0, 0
	for range 300 {
		d := made(t, anyOf(r, 20, 60, 1000))
		for range 120 {
			before, up := d.Files(), d.Up()
			a := anyChange(r)
			answer := a.call(d)
			after := byName(d.Files())
			for _, f := range before {
				g, is := after[f.Name]
				if answer == "0" && strings.Contains(taken(a), brief(f.Name)) {
					continue
				}
				kept++
				if !is || !strings.HasPrefix(string(g.Data), string(f.Data[:f.Safe])) || g.Safe < f.Safe {
					t.Fatalf("%s: %s is %s, before: %s", a.name, f.Name, told([]api.File{g}), told([]api.File{f}))
				}
			}
			if up && !d.Up() {
				falls++
				wantBeginnings(t, a, before, d.Files())
			}
		}
	}
	if falls < 1000 || kept < 10000 {
		t.Errorf("only %d falls, %d files", falls, kept)
	}
}

// wantBeginnings wants each file to be a beginning of what it was, or of what an Append was laying there.
func wantBeginnings(t *testing.T, a asked, before, after []api.File) {
	t.Helper()
	ahead := byName(before)
	if strings.HasPrefix(a.name, "Append") {
		var name, laid string
		if _, err := fmt.Sscanf(a.name, "Append %q %q", &name, &laid); err != nil {
			t.Fatalf("%s: %v", a.name, err)
		}
		ahead[name] = file(name, string(ahead[name].Data)+laid, ahead[name].Safe)
	}
	if len(after) != len(ahead) {
		t.Fatalf("%s: %s, before: %s", a.name, told(after), told(before))
	}
	for _, f := range after {
		if !strings.HasPrefix(string(ahead[f.Name].Data), string(f.Data)) || f.Safe != len(f.Data) {
			t.Fatalf("%s: %s, before: %s", a.name, told([]api.File{f}), told(before))
		}
	}
}

// P19.10: a disk that is Loaded of Files goes on as the first one does, if that was up and not armed.
func TestLoadedGoesOn(t *testing.T) {
	r := rand.New(rand.NewSource(195))
	for range 400 {
		room := anyOf(r, 20, 60, 1000)
		d := made(t, room)
		for range r.Intn(80) {
			anyChange(r).call(d)
		}
		d.Start()
		d.Arm(-1, 0)
		other := loaded(t, room, d.Files()...)
		for range 80 {
			a := anyCall(r)
			if got, want := a.call(other), a.call(d); got != want || seen(other) != seen(d) {
				t.Fatalf("%s: %s, %s, want %s, %s", a.name, got, seen(other), want, seen(d))
			}
		}
		if got, want := probed(other), probed(d); got != want {
			t.Fatalf("%s, want %s", got, want)
		}
	}
}

// P19.7, P19.8: whichever of many acts the power fails in, the disk is what it was between two of them, but for the tails.
func TestPowerFailsInAnyAct(t *testing.T) {
	script := []func(d calls) api.Errno{
		func(d calls) api.Errno { return d.Append("log", []byte("one")) }, syncing("log"),
		func(d calls) api.Errno { return d.Append("log.new", []byte("second")) }, syncing("log.new"), renaming("log.new", "log"),
		func(d calls) api.Errno { return d.Append("log", []byte("third")) },
		func(d calls) api.Errno { return d.Append("b", nil) }, deleting("b"), syncing("log"), deleting("log"),
	}
	safe := []string{"log:\"\"/0", "log:\"\"/0", "log:\"one\"/3 log.new:\"\"/0", "log:\"one\"/3 log.new:\"\"/0", "log:\"one\"/3 log.new:\"second\"/6", "log:\"second\"/6", "b:\"\"/0 log:\"second\"/6", "b:\"\"/0 log:\"second\"/6", "log:\"second\"/6", "log:\"secondthird\"/11"}
	for n := range script {
		d := made(t, 100)
		d.Arm(n, 0)
		for i, act := range script {
			want := api.OK
			if i >= n {
				want = api.ErrDown
			}
			wantErrno(t, fmt.Sprint("act ", i, " of ", n), act(d), want)
		}
		if got := told(d.Files()); got != safe[n] {
			t.Errorf("behind %d acts: %s, want %s", n, got, safe[n])
		}
	}
}

// Two disks have nothing in common: not what they were loaded of, not their power.
func TestTwoDisks(t *testing.T) {
	l := inBusy()
	a, _ := disk.Load(l, roomOfBusy)
	b, _ := disk.Load(l, roomOfBusy)
	before := probed(busy(t))
	a.Arm(3, 1)
	wantOk(t, a.Append("log", []byte("678")), a.Sync("log"), a.Rename("all.safe", "a"))
	wantErrno(t, "Delete", a.Delete("log"), api.ErrDown)
	wantUp(t, b, true)
	wantFiles(t, b, inBusy()...)
	if probed(b) != before {
		t.Error("what is done to one disk is seen at another")
	}
	wantFiles(t, a, file("a", "safe", 4), file("log", "12345678", 8), file("z.tail", "t", 1))
}
