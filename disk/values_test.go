package disk_test

import (
	"fmt"
	"math"
	"slices"
	"strings"
	"testing"

	"longshore/api"
	"longshore/disk"
)

// The limits are said anew, not asked of the program.
const (
	maxDisk = 16777216
	maxName = 16
)

// calls are what a disk can be asked.
type calls interface {
	Append(name string, b []byte) api.Errno
	Sync(name string) api.Errno
	Rename(from, to string) api.Errno
	Delete(name string) api.Errno
	Read(name string) ([]byte, api.Errno)
	Files() []api.File
	Arm(acts, keep int)
	Crash(keep int)
	Up() bool
	Start()
}

var _ calls = (*disk.Disk)(nil)

func file(name, data string, safe int) api.File {
	return api.File{Name: name, Data: []byte(data), Safe: safe}
}

// told is files as text; an empty list and none are the same there.
func told(l []api.File) string {
	var s []string
	for _, f := range l {
		s = append(s, fmt.Sprintf("%s:%s/%d", f.Name, brief(string(f.Data)), f.Safe))
	}
	return strings.Join(s, " ")
}

// brief is a text, or the begin of a long one.
func brief(s string) string {
	if len(s) > 300 {
		return fmt.Sprintf("%q.. (%d bytes)", s[:40], len(s))
	}
	return fmt.Sprintf("%q", s)
}

func made(t *testing.T, room int) *disk.Disk {
	t.Helper()
	d := disk.New(room)
	if d == nil {
		t.Fatalf("New(%d): nil", room)
	}
	return d
}

// loaded is a disk with these files.
func loaded(t *testing.T, room int, files ...api.File) *disk.Disk {
	t.Helper()
	d, e := disk.Load(files, room)
	if d == nil || e != api.OK {
		t.Fatalf("Load(%s, %d): %v, %d", told(files), room, d != nil, e)
	}
	return d
}

// inBusy are files as a disk has them that is in use: with a tail and without one, all tail, without bytes.
func inBusy() []api.File {
	return []api.File{file("a", "", 0), file("all.safe", "safe", 4), file("log", "12345", 3), file("z.tail", "tail", 0)}
}

// roomOfBusy leaves five bytes.
const roomOfBusy = 18

func busy(t *testing.T) *disk.Disk {
	t.Helper()
	return loaded(t, roomOfBusy, inBusy()...)
}

func wantErrno(t *testing.T, what string, got, want api.Errno) {
	t.Helper()
	if got != want {
		t.Fatalf("%s: %d, want %d", what, got, want)
	}
}

func wantOk(t *testing.T, got ...api.Errno) {
	t.Helper()
	for i, e := range got {
		if e != api.OK {
			t.Fatalf("call %d: %d, want OK", i, e)
		}
	}
}

func wantFiles(t *testing.T, d calls, want ...api.File) {
	t.Helper()
	if got := told(d.Files()); got != told(want) {
		t.Fatalf("Files(): %s, want %s", got, told(want))
	}
}

func wantRead(t *testing.T, d calls, name, want string) {
	t.Helper()
	if got, e := d.Read(name); string(got) != want || e != api.OK {
		t.Fatalf("Read(%q): %s, %d, want %s", name, brief(string(got)), e, brief(want))
	}
}

func wantNoRead(t *testing.T, d calls, name string, want api.Errno) {
	t.Helper()
	if got, e := d.Read(name); len(got) != 0 || e != want {
		t.Fatalf("Read(%s): %s, %d, want %d", brief(name), brief(string(got)), e, want)
	}
}

func wantUp(t *testing.T, d calls, want bool) {
	t.Helper()
	if got := d.Up(); got != want {
		t.Fatalf("Up(): %v", got)
	}
}

// wantActs wants that so many acts are still done and the power fails in the one behind them; below 0: that it does not.
func wantActs(t *testing.T, d calls, want int) {
	t.Helper()
	if got := actsLeft(d); got != want {
		t.Fatalf("%d acts are done ahead of the fall, want %d", got, want)
	}
}

// actsLeft does acts until the disk falls, and tells how many were done; -1 where it does not fall in many.
func actsLeft(d calls) int {
	for n := range 40 {
		if d.Append("act", nil) != api.OK {
			return n
		}
	}
	return -1
}

// seen is what can be seen of a disk without a change of it.
func seen(d calls) string {
	s := fmt.Sprint(d.Up(), " ", told(d.Files()))
	for _, name := range []string{"a", "b", "log", "all.safe", "z.tail", "act", "", "A"} {
		b, e := d.Read(name)
		s += fmt.Sprintf(" %q %d", b, e)
	}
	return s
}

// probed is all that can be seen of a disk, by calls that change it, too: the room that is left, whether it is armed, and with which keep.
func probed(d calls) string {
	s := seen(d)
	for n := 20; n >= 0; n-- {
		s += fmt.Sprint(" ", d.Append("probe", []byte("abcdefghijklmnopqrst")[:n]))
	}
	s += fmt.Sprint(" ", actsLeft(d), " ", seen(d))
	d.Start()
	s += fmt.Sprint(" ", actsLeft(d), " ", seen(d))
	for _, name := range []string{"a", "log", "all.safe", "z.tail", "act", "probe"} {
		s += fmt.Sprint(" ", d.Sync(name), d.Rename(name, "b"), d.Delete(name))
	}
	d.Crash(2)
	return s + " " + seen(d)
}

// wantUntouched wants that do has changed nothing of what again makes.
func wantUntouched(t *testing.T, what string, again func() *disk.Disk, do func(d *disk.Disk)) {
	t.Helper()
	d := again()
	do(d)
	if got, want := probed(d), probed(again()); got != want {
		t.Fatalf("%s: something has changed: %s, want %s", what, got, want)
	}
}

// goodNames are names at their edges, with each byte that may be in one.
func goodNames() []string {
	l := []string{".", "..", "...", "a.b", ".a", "a.", "log", "log.new", "abcdefghijklmnop", "qrstuvwxyz......", strings.Repeat("z", maxName), strings.Repeat(".", maxName), strings.Repeat("a", maxName-1)}
	for b := 'a'; b <= 'z'; b++ {
		l = append(l, string(b))
	}
	return l
}

// badNames are texts that are no names: too short, too long, and with each byte that may not be in one, at its begin, in its midst and at its end.
func badNames() []string {
	l := []string{"", strings.Repeat("a", maxName+1), strings.Repeat(".", maxName+1), strings.Repeat("a", 1000), "Log", "log1", "a/b", "a b", "a_b", "a-b", "é", "log\n", " log", "log ", "log\x00"}
	for b := range 256 {
		if b >= 'a' && b <= 'z' || b == '.' {
			continue
		}
		s := string([]byte{byte(b)})
		l = append(l, s, s+"a", "a"+s, "a"+s+"b", strings.Repeat("a", maxName-1)+s)
	}
	return l
}

// edges are numbers at which something may go wrong.
func edges() []int {
	return []int{math.MinInt, math.MinInt + 1, -1 << 32, -1 << 31, -maxDisk, -2, -1, 0, 1, 2, 3, maxDisk - 1, maxDisk, maxDisk + 1, 1<<31 - 1, 1 << 31, 1 << 32, math.MaxInt - 1, math.MaxInt}
}

// The helpers above see what they are to see: each two of these disks differ.
func TestProbesSee(t *testing.T) {
	var all []string
	for _, change := range []func(d *disk.Disk){
		func(d *disk.Disk) {},
		func(d *disk.Disk) { d.Append("a", []byte("x")) },
		func(d *disk.Disk) { d.Append("b", nil) },
		func(d *disk.Disk) { d.Sync("log") },
		func(d *disk.Disk) { d.Delete("a") },
		func(d *disk.Disk) { d.Rename("a", "b") },
		func(d *disk.Disk) { d.Rename("all.safe", "a") },
		func(d *disk.Disk) { d.Arm(0, 0) },
		func(d *disk.Disk) { d.Arm(0, 3) },
		func(d *disk.Disk) { d.Arm(1, 0) },
		func(d *disk.Disk) { d.Arm(30, 0) },
		func(d *disk.Disk) { d.Arm(30, 1) },
		func(d *disk.Disk) { d.Crash(0) },
		func(d *disk.Disk) { d.Crash(1) },
		func(d *disk.Disk) { d.Crash(1); d.Start() },
	} {
		d := busy(t)
		change(d)
		s := probed(d)
		if slices.Contains(all, s) {
			t.Errorf("change %d is not seen: %s", len(all), s)
		}
		all = append(all, s)
	}
	if probed(loaded(t, roomOfBusy+1, inBusy()...)) == probed(busy(t)) {
		t.Error("one byte more of room is not seen")
	}
}
