package disk_test

import (
	"fmt"
	"testing"

	"longshore/api"
	"longshore/disk"
)

// refusal is a call that is refused.
type refusal struct {
	what string
	call func(d calls) api.Errno
	want api.Errno
}

func appending(name string, n int) func(d calls) api.Errno {
	return func(d calls) api.Errno { return d.Append(name, make([]byte, n)) }
}

func syncing(name string) func(d calls) api.Errno {
	return func(d calls) api.Errno { return d.Sync(name) }
}

func renaming(from, to string) func(d calls) api.Errno {
	return func(d calls) api.Errno { return d.Rename(from, to) }
}

func deleting(name string) func(d calls) api.Errno {
	return func(d calls) api.Errno { return d.Delete(name) }
}

func reading(name string) func(d calls) api.Errno {
	return func(d calls) api.Errno {
		if b, e := d.Read(name); len(b) == 0 {
			return e
		}
		return api.OK
	}
}

// refusals are each way to be refused by a busy disk that is up, also where two things are wrong: the error is the one that the chapter names first.
func refusals() []refusal {
	return []refusal{
		{"Append, no name", appending("B", 1), api.ErrArg},
		{"Append, an empty name", appending("", 0), api.ErrArg},
		{"Append, no name, no room", appending("B", 6), api.ErrArg},
		{"Append, no room", appending("log", 6), api.ErrDiskFull},
		{"Append to what is not there, no room", appending("b", 6), api.ErrDiskFull},
		{"Append of more than any room", appending("log", maxDisk+1), api.ErrDiskFull},
		{"Sync, no name", syncing("B"), api.ErrArg},
		{"Sync, not there", syncing("b"), api.ErrPlace},
		{"Rename, no names", renaming("B", "C"), api.ErrArg},
		{"Rename from no name", renaming("B", "a"), api.ErrArg},
		{"Rename to no name", renaming("all.safe", "B"), api.ErrArg},
		{"Rename of what is not there to no name", renaming("b", ""), api.ErrArg},
		{"Rename with a tail to no name", renaming("log", "logs.1"), api.ErrArg},
		{"Rename of what is not there", renaming("b", "c"), api.ErrPlace},
		{"Rename of what is not there to what is", renaming("b", "log"), api.ErrPlace},
		{"Rename of what is not there to itself", renaming("b", "b"), api.ErrPlace},
		{"Rename with a tail", renaming("log", "b"), api.ErrSafe},
		{"Rename with a tail onto another", renaming("log", "a"), api.ErrSafe},
		{"Rename with a tail onto itself", renaming("log", "log"), api.ErrSafe},
		{"Rename, all of it tail", renaming("z.tail", "b"), api.ErrSafe},
		{"Delete, no name", deleting("B"), api.ErrArg},
		{"Delete, not there", deleting("b"), api.ErrPlace},
		{"Read, no name", reading("B"), api.ErrArg},
		{"Read, not there", reading("b"), api.ErrPlace},
	}
}

// P19.2 to P19.6, DOC.md's R4 and R5: each way to be refused, and nothing has changed then; not in a disk that is armed either: it is no act.
func TestRefused(t *testing.T) {
	for _, armed := range []int{-1, 0, 1, 3} {
		again := func() *disk.Disk {
			d := busy(t)
			d.Arm(armed, 1)
			return d
		}
		for _, r := range refusals() {
			what := fmt.Sprint(r.what, ", armed with ", armed)
			wantUntouched(t, what, again, func(d *disk.Disk) {
				for range 5 {
					wantErrno(t, what, r.call(d), r.want)
				}
			})
		}
	}
}

// P19.2 to P19.6: whatever else is wrong, a disk that is down answers ErrDown first.
func TestRefusedWhileDown(t *testing.T) {
	again := func() *disk.Disk {
		d := busy(t)
		d.Crash(1)
		return d
	}
	for _, r := range append(refusals(), refusal{"Append", appending("log", 1), 0}, refusal{"Append of nothing", appending("new", 0), 0}, refusal{"Sync", syncing("log"), 0}, refusal{"Rename", renaming("log", "b"), 0}, refusal{"Rename onto itself", renaming("log", "log"), 0}, refusal{"Delete", deleting("a"), 0}, refusal{"Read", reading("log"), 0}, refusal{"Read of no bytes", reading("a"), 0}) {
		wantUntouched(t, r.what, again, func(d *disk.Disk) {
			wantErrno(t, r.what, r.call(d), api.ErrDown)
			wantUp(t, d, false)
		})
	}
}

// P19.2 to P19.6: names, of each call.
func TestNames(t *testing.T) {
	for _, name := range goodNames() {
		d := made(t, 100)
		wantOk(t, d.Append(name, []byte("x")), d.Sync(name))
		wantRead(t, d, name, "x")
		wantFiles(t, d, file(name, "x", 1))
		wantOk(t, d.Rename(name, "other"), d.Rename("other", name))
		wantFiles(t, d, file(name, "x", 1))
		wantOk(t, d.Delete(name))
		wantFiles(t, d)
	}
	d := busy(t)
	for _, name := range badNames() {
		for _, call := range []func(d calls) api.Errno{appending(name, 1), appending(name, 0), syncing(name), renaming(name, "b"), renaming("all.safe", name), renaming(name, name), deleting(name), reading(name)} {
			wantErrno(t, brief(name), call(d), api.ErrArg)
		}
		wantFiles(t, d, inBusy()...)
	}
}

// P19.2: bytes stand behind the tail, and are no safer than it.
func TestAppend(t *testing.T) {
	d := busy(t)
	wantOk(t, d.Append("log", []byte("6")), d.Append("all.safe", []byte("r")), d.Append("z.tail", []byte("s")), d.Append("a", []byte{0}), d.Append("new", []byte{255}))
	wantFiles(t, d, file("a", "\x00", 0), file("all.safe", "safer", 4), file("log", "123456", 3), file("new", "\xff", 0), file("z.tail", "tails", 0))
}

// P19.2: of nothing; what was not there is made.
func TestAppendOfNothing(t *testing.T) {
	d := busy(t)
	for _, f := range inBusy() {
		wantOk(t, d.Append(f.Name, nil), d.Append(f.Name, []byte{}))
	}
	wantFiles(t, d, inBusy()...)
	wantOk(t, d.Append("b", nil), d.Append("c", []byte{}))
	wantFiles(t, d, inBusy()[0], file("all.safe", "safe", 4), file("b", "", 0), file("c", "", 0), file("log", "12345", 3), file("z.tail", "tail", 0))
	wantRead(t, d, "b", "")
	wantOk(t, d.Sync("b"), d.Rename("b", "d"), d.Delete("d"))
	none := made(t, 0)
	wantOk(t, none.Append("b", nil), none.Append("b", nil))
	wantErrno(t, "Append", none.Append("b", []byte{0}), api.ErrDiskFull)
	wantFiles(t, none, file("b", "", 0))
}

// P19.2: up to just the room, in each file; what is refused makes no file.
func TestAppendUpToTheRoom(t *testing.T) {
	for _, name := range []string{"a", "all.safe", "log", "z.tail", "new"} {
		for n := range 9 {
			d := busy(t)
			want := api.OK
			if n > 5 {
				want = api.ErrDiskFull
			}
			wantErrno(t, fmt.Sprint("Append of ", n), d.Append(name, make([]byte, n)), want)
			if n > 5 {
				wantFiles(t, d, inBusy()...)
			} else {
				wantErrno(t, "Append of the rest and one", d.Append(name, make([]byte, 6-n)), api.ErrDiskFull)
				wantOk(t, d.Append(name, make([]byte, 5-n)))
			}
		}
	}
}

// P19.2, P19.4, P19.5, P19.8: room is there again where a file is gone, another one was laid onto it, or a tail is gone.
func TestRoomComesBack(t *testing.T) {
	for _, c := range []struct {
		what string
		do   func(d *disk.Disk)
		room int
	}{
		{"nothing", func(d *disk.Disk) {}, 5},
		{"Delete", func(d *disk.Disk) { d.Delete("log") }, 10},
		{"Delete of no bytes", func(d *disk.Disk) { d.Delete("a") }, 5},
		{"Rename", func(d *disk.Disk) { d.Rename("all.safe", "new") }, 5},
		{"Rename onto another", func(d *disk.Disk) { d.Rename("all.safe", "log") }, 10},
		{"Rename of no bytes onto another", func(d *disk.Disk) { d.Rename("a", "z.tail") }, 9},
		{"Rename onto itself", func(d *disk.Disk) { d.Rename("all.safe", "all.safe") }, 5},
		{"Sync", func(d *disk.Disk) { d.Sync("log") }, 5},
		{"a fall", func(d *disk.Disk) { d.Crash(0); d.Start() }, 11},
		{"a fall that leaves three bytes", func(d *disk.Disk) { d.Crash(3); d.Start() }, 6},
		{"two falls", func(d *disk.Disk) { d.Crash(1); d.Start(); d.Crash(0); d.Start() }, 9},
		{"a fall in an Append", func(d *disk.Disk) { d.Arm(0, 1); d.Append("new", make([]byte, 5)); d.Start() }, 8},
		{"an Append that is refused", func(d *disk.Disk) { d.Append("log", make([]byte, 6)) }, 5},
		{"a Rename in which the power fails", func(d *disk.Disk) { d.Arm(0, 9); d.Rename("all.safe", "log"); d.Start() }, 5},
		{"a Delete in which the power fails", func(d *disk.Disk) { d.Arm(0, 9); d.Delete("log"); d.Start() }, 5},
	} {
		d := busy(t)
		c.do(d)
		wantErrno(t, c.what, d.Append("b", make([]byte, c.room+1)), api.ErrDiskFull)
		wantErrno(t, c.what, d.Append("b", make([]byte, c.room)), api.OK)
		wantErrno(t, c.what, d.Append("b", make([]byte, 1)), api.ErrDiskFull)
	}
}

// P19.3: all of a file is safe, and of no other one.
func TestSync(t *testing.T) {
	for i, f := range inBusy() {
		d := busy(t)
		wantOk(t, d.Sync(f.Name))
		want := inBusy()
		want[i].Safe = len(f.Data)
		wantFiles(t, d, want...)
		wantOk(t, d.Sync(f.Name))
		wantFiles(t, d, want...)
		d.Crash(0)
		if got := d.Files()[i]; string(got.Data) != string(f.Data) {
			t.Errorf("%s behind a fall: %s", f.Name, got.Data)
		}
	}
	d := busy(t)
	wantOk(t, d.Sync("log"), d.Append("log", []byte("67")))
	wantFiles(t, d, inBusy()[0], inBusy()[1], file("log", "1234567", 5), inBusy()[3])
}

// P19.4: a new name, and one that another file had.
func TestRename(t *testing.T) {
	d := busy(t)
	wantOk(t, d.Rename("all.safe", "b"))
	wantFiles(t, d, file("a", "", 0), file("b", "safe", 4), file("log", "12345", 3), file("z.tail", "tail", 0))
	wantNoRead(t, d, "all.safe", api.ErrPlace)
	wantErrno(t, "again", d.Rename("all.safe", "b"), api.ErrPlace)
	wantOk(t, d.Rename("b", "log"))
	wantFiles(t, d, file("a", "", 0), file("log", "safe", 4), file("z.tail", "tail", 0))
	wantOk(t, d.Rename("a", "z.tail"))
	wantFiles(t, d, file("log", "safe", 4), file("z.tail", "", 0))
	// What has gone on under its new name is that file alone.
	wantOk(t, d.Append("a", []byte("x")), d.Append("log", []byte("r")))
	wantFiles(t, d, file("a", "x", 0), file("log", "safer", 4), file("z.tail", "", 0))
	wantOk(t, d.Sync("log"), d.Rename("log", "b"))
	wantFiles(t, d, file("a", "x", 0), file("b", "safer", 5), file("z.tail", "", 0))
}

// P19.4: onto itself: nothing changes, but it is an act.
func TestRenameOntoItself(t *testing.T) {
	d := busy(t)
	wantOk(t, d.Rename("all.safe", "all.safe"), d.Rename("a", "a"))
	wantFiles(t, d, inBusy()...)
	d.Arm(2, 9)
	wantOk(t, d.Rename("all.safe", "all.safe"), d.Rename("a", "a"))
	wantErrno(t, "Rename", d.Rename("all.safe", "all.safe"), api.ErrDown)
	wantUp(t, d, false)
	wantFiles(t, d, file("a", "", 0), file("all.safe", "safe", 4), file("log", "12345", 5), file("z.tail", "tail", 4))
}

// P19.4, P19.5: they last at once.
func TestLastsAtOnce(t *testing.T) {
	for _, keep := range []int{-1, 0, 9} {
		d := busy(t)
		wantOk(t, d.Rename("all.safe", "log"), d.Delete("z.tail"), d.Rename("a", "b"))
		d.Crash(keep)
		wantFiles(t, d, file("b", "", 0), file("log", "safe", 4))
	}
}

// P19.5: that file alone is gone, with a tail or without; it may be made anew, and begins with nothing then.
func TestDelete(t *testing.T) {
	for i, f := range inBusy() {
		d := busy(t)
		wantOk(t, d.Delete(f.Name))
		want := inBusy()
		wantFiles(t, d, append(want[:i], want[i+1:]...)...)
		wantNoRead(t, d, f.Name, api.ErrPlace)
		wantErrno(t, "again", d.Delete(f.Name), api.ErrPlace)
		wantErrno(t, "Sync", d.Sync(f.Name), api.ErrPlace)
		wantOk(t, d.Append(f.Name, []byte("n")))
		want = inBusy()
		want[i] = file(f.Name, "n", 0)
		wantFiles(t, d, want...)
	}
}

// P19.6: Read tells all bytes, also a tail's, and changes nothing; it is no act.
func TestRead(t *testing.T) {
	d := busy(t)
	d.Arm(0, 0)
	for range 3 {
		for _, f := range inBusy() {
			wantRead(t, d, f.Name, string(f.Data))
		}
		wantFiles(t, d, inBusy()...)
	}
	wantActs(t, d, 0)
}

// P19.6: by rising names, byte by byte: a point comes ahead of a letter, a beginning ahead of what goes on.
func TestFiles(t *testing.T) {
	sorted := []string{".", "..", "..a", ".a", ".z", "a", "a.", "a..", "a.b", "aa", "ab", "b", "log", "log.new", "loga", "z", "z.z", "zz"}
	for shift := range sorted {
		d := made(t, 100)
		for i := range sorted {
			name := sorted[(i*7+shift)%len(sorted)]
			wantOk(t, d.Append(name, []byte(name[:1])))
		}
		var names []string
		for _, f := range d.Files() {
			names = append(names, f.Name)
		}
		if fmt.Sprint(names) != fmt.Sprint(sorted) {
			t.Fatalf("%q", names)
		}
	}
}

// P19.6: Files tells what is there of a disk that is down, too; it is no act.
func TestFilesWhileDown(t *testing.T) {
	d := busy(t)
	d.Arm(0, 0)
	for range 3 {
		wantFiles(t, d, inBusy()...)
	}
	d.Crash(2)
	for range 3 {
		wantFiles(t, d, file("a", "", 0), file("all.safe", "safe", 4), file("log", "12345", 5), file("z.tail", "ta", 2))
	}
	empty := made(t, 1)
	empty.Crash(0)
	wantFiles(t, empty)
}
