package disk_test

import (
	"fmt"
	"math"
	"testing"

	"longshore/api"
	"longshore/disk"
)

// acts are the four acts, each as it can be done at a busy disk again and again.
func acts() map[string]func(d calls) api.Errno {
	return map[string]func(d calls) api.Errno{
		"Append": appending("a", 0), "Sync": syncing("all.safe"), "Rename": renaming("all.safe", "all.safe"),
		"Delete": func(d calls) api.Errno {
			// Crash and Start have no part in this: an act makes the file, another one takes it.
			if b, e := d.Read("gone"); e == api.ErrPlace && len(b) == 0 {
				return d.Append("gone", nil)
			}
			return d.Delete("gone")
		},
	}
}

// stays is what stays of busy's files behind a fall.
func stays(keep int) []api.File {
	l := inBusy()
	for i, f := range l {
		n := f.Safe
		for n < len(f.Data) && n-f.Safe < keep {
			n++
		}
		l[i].Data, l[i].Safe = f.Data[:n], n
	}
	return l
}

// P19.7: so many acts are done, of whichever kind, and in the one behind them the power fails.
func TestArm(t *testing.T) {
	for name, act := range acts() {
		for _, n := range []int{0, 1, 2, 3, 7, 100} {
			d := busy(t)
			d.Arm(n, 0)
			for i := range n {
				wantErrno(t, fmt.Sprint(name, " ", i, " of ", n), act(d), api.OK)
				wantUp(t, d, true)
			}
			wantErrno(t, fmt.Sprint(name, " behind ", n), act(d), api.ErrDown)
			wantUp(t, d, false)
			wantErrno(t, name+" while down", act(d), api.ErrDown)
			d.Start()
			for range 5 {
				wantErrno(t, name+" of what is up again, and not armed", act(d), api.OK)
			}
		}
	}
}

// P19.7: below 0 it is armed no more, or not at all.
func TestArmBelowZero(t *testing.T) {
	for _, n := range []int{-1, -2, -1 << 31, math.MinInt} {
		d := busy(t)
		d.Arm(n, 3)
		wantActs(t, d, -1)
		for _, before := range []int{0, 1, 5, math.MaxInt} {
			d.Arm(before, 3)
			d.Arm(n, 3)
			wantActs(t, d, -1)
		}
		wantUp(t, d, true)
	}
}

// P19.7: of very many acts all are done that can be asked for.
func TestArmWithMany(t *testing.T) {
	for _, n := range []int{1000, 1 << 31, math.MaxInt} {
		d := busy(t)
		d.Arm(n, 0)
		wantActs(t, d, -1)
	}
}

// P19.7: a later Arm takes the place of an earlier one: its acts and its keep.
func TestArmAnew(t *testing.T) {
	for _, c := range []struct{ acts, keep, later, laterKeep int }{{0, 0, 3, 1}, {3, 1, 0, 0}, {5, 0, 2, 9}, {2, 9, 5, -1}, {-1, 4, 1, 1}, {1, 1, 1, 2}, {0, 9, 0, 0}} {
		d := busy(t)
		d.Arm(c.acts, c.keep)
		if c.acts > 1 {
			wantErrno(t, "an act between", d.Sync("a"), api.OK)
		}
		d.Arm(c.later, c.laterKeep)
		for range c.later {
			wantErrno(t, "an act", d.Sync("a"), api.OK)
		}
		wantErrno(t, "the act behind", d.Sync("a"), api.ErrDown)
		wantFiles(t, d, stays(c.laterKeep)...)
	}
}

// P19.7: a disk that is down is not armed, nor is that made up for by Start.
func TestArmWhileDown(t *testing.T) {
	for _, n := range []int{-1, 0, 1, 5} {
		d := busy(t)
		d.Crash(9)
		d.Arm(n, 0)
		wantUp(t, d, false)
		d.Start()
		wantActs(t, d, -1)
	}
}

// P19.7: Arm itself, Start of a disk that is up, Up, Read and Files are no acts.
func TestNoActs(t *testing.T) {
	d := busy(t)
	d.Arm(1, 0)
	for range 10 {
		d.Start()
		d.Up()
		d.Files()
		wantRead(t, d, "log", "12345")
	}
	wantActs(t, d, 1)
}

// P19.7: the power fails in each of the four acts: bytes are laid into the tail, and a file is made; the others do nothing.
func TestPowerFails(t *testing.T) {
	for _, keep := range append(edges(), 4, 5, 6) {
		for _, c := range []struct {
			what string
			act  func(d calls) api.Errno
			laid []api.File // what the act adds ahead of the fall
		}{
			{"Append behind a tail", func(d calls) api.Errno { return d.Append("log", []byte("678")) }, []api.File{file("log", "12345678", 3)}},
			{"Append behind what is safe", func(d calls) api.Errno { return d.Append("all.safe", []byte("rest")) }, []api.File{file("all.safe", "saferest", 4)}},
			{"Append of a file", func(d calls) api.Errno { return d.Append("b", []byte("new")) }, []api.File{file("b", "new", 0)}},
			{"Append of a file without bytes", appending("b", 0), []api.File{file("b", "", 0)}},
			{"Append of nothing", appending("log", 0), nil},
			{"Sync", syncing("log"), nil},
			{"Sync of what is safe", syncing("all.safe"), nil},
			{"Sync, all of it tail", syncing("z.tail"), nil},
			{"Rename", renaming("all.safe", "b"), nil},
			{"Rename onto another", renaming("all.safe", "log"), nil},
			{"Rename onto itself", renaming("all.safe", "all.safe"), nil},
			{"Delete", deleting("all.safe"), nil},
			{"Delete with a tail", deleting("log"), nil},
			{"Delete of no bytes", deleting("a"), nil},
		} {
			what := fmt.Sprint(c.what, ", keep ", keep)
			d := busy(t)
			d.Arm(0, keep)
			wantErrno(t, what, c.act(d), api.ErrDown)
			wantUp(t, d, false)
			ahead := made(t, 50)
			for _, f := range inBusy() {
				for _, l := range c.laid {
					if l.Name == f.Name {
						f = l
					}
				}
				wantOk(t, layAs(ahead, f))
			}
			for _, l := range c.laid {
				if l.Name == "b" {
					wantOk(t, layAs(ahead, l))
				}
			}
			ahead.Crash(keep)
			if got, want := told(d.Files()), told(ahead.Files()); got != want {
				t.Fatalf("%s: %s, want %s", what, got, want)
			}
		}
	}
}

// layAs lays a file on a disk by acts.
func layAs(d *disk.Disk, f api.File) api.Errno {
	d.Append(f.Name, f.Data[:f.Safe])
	if f.Safe > 0 {
		d.Sync(f.Name)
	}
	return d.Append(f.Name, f.Data[f.Safe:])
}

// P19.7: of an Append that makes its file, the file stays, whatever of its bytes does.
func TestPowerFailsInANewFile(t *testing.T) {
	for keep, want := range map[int]string{math.MinInt: "", -1: "", 0: "", 1: "n", 2: "ne", 3: "new", 4: "new", math.MaxInt: "new"} {
		d := made(t, 3)
		d.Arm(0, keep)
		wantErrno(t, "Append", d.Append("b", []byte("new")), api.ErrDown)
		wantFiles(t, d, file("b", want, len(want)))
		d.Start()
		wantRead(t, d, "b", want)
	}
}

// P19.8: what falls with keep: below 0, 0, within the tail, all of it and more; what has stayed is safe.
func TestCrash(t *testing.T) {
	for _, keep := range append(edges(), 4, 5) {
		d := busy(t)
		d.Crash(keep)
		wantUp(t, d, false)
		wantFiles(t, d, stays(keep)...)
		d.Start()
		wantUp(t, d, true)
		wantFiles(t, d, stays(keep)...)
		d.Crash(0)
		wantFiles(t, d, stays(keep)...)
	}
	for keep, want := range []string{"", "t", "ta", "tai", "tail", "tail"} {
		d := busy(t)
		d.Crash(keep)
		if got := d.Files()[3]; string(got.Data) != want || got.Safe != len(want) {
			t.Errorf("a tail of 4 bytes with keep %d: %q, %d", keep, got.Data, got.Safe)
		}
	}
}

// P19.8: Crash of a disk that is down does nothing.
func TestCrashWhileDown(t *testing.T) {
	for _, fall := range []func(d *disk.Disk){
		func(d *disk.Disk) { d.Crash(1) },
		func(d *disk.Disk) { d.Arm(0, 1); d.Sync("log") },
	} {
		again := func() *disk.Disk { d := busy(t); fall(d); return d }
		for _, keep := range []int{-1, 0, 1, 9} {
			wantUntouched(t, "Crash", again, func(d *disk.Disk) { d.Crash(keep); d.Crash(keep) })
		}
		wantFiles(t, again(), stays(1)...)
	}
}

// P19.8: behind a fall a disk is not armed, whether by Crash or in an act; the keep is that of the fall.
func TestCrashOfArmed(t *testing.T) {
	for _, n := range []int{0, 1, 4} {
		d := busy(t)
		d.Arm(n, 0)
		d.Crash(2)
		wantFiles(t, d, stays(2)...)
		d.Start()
		wantActs(t, d, -1)
	}
}

// P19.8: a file stays a file, also without bytes.
func TestFileStays(t *testing.T) {
	d := made(t, 10)
	wantOk(t, d.Append("a", nil), d.Append("b", []byte("tail")))
	d.Crash(0)
	wantFiles(t, d, file("a", "", 0), file("b", "", 0))
	d.Start()
	wantRead(t, d, "a", "")
	wantRead(t, d, "b", "")
	wantOk(t, d.Sync("b"), d.Append("b", []byte("0123456789")), d.Rename("a", "c"), d.Delete("c"))
	wantFiles(t, d, file("b", "0123456789", 0))
}

// P19.9: Start of a disk that is down, and of one that is up; it goes on with the files as they are.
func TestStart(t *testing.T) {
	d := busy(t)
	d.Crash(1)
	d.Start()
	wantUp(t, d, true)
	wantOk(t, d.Append("log", []byte("x")), d.Append("z.tail", nil))
	wantFiles(t, d, file("a", "", 0), file("all.safe", "safe", 4), file("log", "1234x", 4), file("z.tail", "t", 1))
	wantActs(t, d, -1)
	again := func() *disk.Disk { d := busy(t); d.Arm(2, 1); return d }
	wantUntouched(t, "Start of what is up", again, func(d *disk.Disk) { d.Start(); d.Start() })
	twice := func() *disk.Disk { d := busy(t); d.Crash(1); d.Start(); return d }
	wantUntouched(t, "Start twice", twice, func(d *disk.Disk) { d.Start() })
}

// P19.9: Up changes nothing.
func TestUp(t *testing.T) {
	for _, again := range []func() *disk.Disk{func() *disk.Disk { return busy(t) }, func() *disk.Disk { d := busy(t); d.Crash(0); return d }} {
		wantUntouched(t, "Up", again, func(d *disk.Disk) { d.Up(); d.Up() })
	}
}
