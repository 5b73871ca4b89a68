package disk_test

import (
	"fmt"
	"strings"
	"testing"

	"longshore/api"
	"longshore/disk"
)

func wantNoLoad(t *testing.T, want api.Errno, room int, files ...api.File) {
	t.Helper()
	if d, e := disk.Load(files, room); d != nil || e != want {
		t.Fatalf("Load(%s, %d): %v, %d, want nil, %d", told(files), room, d != nil, e, want)
	}
}

// P19.1: New takes the rooms from 0 to MaxDisk, and no other.
func TestNewRooms(t *testing.T) {
	for _, room := range edges() {
		d := disk.New(room)
		if want := room >= 0 && room <= maxDisk; (d != nil) != want {
			t.Errorf("New(%d): %v", room, d != nil)
		}
	}
}

// P19.1: a new disk has no files, is up, and not armed.
func TestNew(t *testing.T) {
	d := made(t, 3)
	wantFiles(t, d)
	wantUp(t, d, true)
	wantNoRead(t, d, "a", api.ErrPlace)
	wantErrno(t, "Sync", d.Sync("a"), api.ErrPlace)
	wantErrno(t, "Delete", d.Delete("a"), api.ErrPlace)
	wantErrno(t, "Rename", d.Rename("a", "b"), api.ErrPlace)
	wantActs(t, d, -1)
}

// P19.1, P19.2: the room is all that files may have, just so many bytes.
func TestRoom(t *testing.T) {
	for _, room := range []int{0, 1, 2, 255, 256, 4097, maxDisk - 1, maxDisk} {
		for _, d := range []*disk.Disk{made(t, room), loaded(t, room, file("log", "", 0))} {
			all := make([]byte, room+1)
			wantErrno(t, "one byte too many", d.Append("log", all), api.ErrDiskFull)
			wantOk(t, d.Append("log", all[:room/2]), d.Append("b", all[room/2:room]))
			wantErrno(t, "one more byte", d.Append("log", all[:1]), api.ErrDiskFull)
			wantErrno(t, "one more byte", d.Append("new", all[:1]), api.ErrDiskFull)
			wantOk(t, d.Append("log", nil), d.Append("c", nil))
			if l := d.Files(); len(l) != 3 || len(l[0].Data)+len(l[2].Data) != room || l[1].Name != "c" {
				t.Fatalf("a room of %d: %d files", room, len(l))
			}
		}
	}
}

// P19.1: Load takes the rooms from 0 to MaxDisk, and no other.
func TestLoadRooms(t *testing.T) {
	for _, room := range edges() {
		if room >= 0 && room <= maxDisk {
			wantFiles(t, loaded(t, room, file("a", "", 0)), file("a", "", 0))
			wantFiles(t, loaded(t, room))
		} else {
			wantNoLoad(t, api.ErrArg, room)
			wantNoLoad(t, api.ErrArg, room, file("a", "x", 0))
		}
	}
}

// P19.1: a loaded disk has these files, in whichever order they came, is up, and not armed.
func TestLoad(t *testing.T) {
	l := inBusy()
	for range l {
		l = append(l[1:], l[0])
		d := loaded(t, roomOfBusy, l...)
		wantFiles(t, d, inBusy()...)
		wantUp(t, d, true)
		for _, f := range inBusy() {
			wantRead(t, d, f.Name, string(f.Data))
		}
		wantErrno(t, "Append", d.Append("b", make([]byte, 6)), api.ErrDiskFull)
		wantOk(t, d.Append("b", make([]byte, 5)))
		wantActs(t, d, -1)
	}
	d, e := disk.Load(nil, 4)
	wantErrno(t, "Load of no files", e, api.OK)
	wantFiles(t, d)
}

// P19.1: names, each with a file behind and ahead of it.
func TestLoadNames(t *testing.T) {
	var all []api.File
	for _, name := range goodNames() {
		all = append(all, file(name, name, len(name)/2))
		wantFiles(t, loaded(t, 20, file(name, name, 1)), file(name, name, 1))
	}
	if n := len(loaded(t, 1000, all...).Files()); n != len(all) {
		t.Errorf("%d files of %d", n, len(all))
	}
	for _, name := range badNames() {
		wantNoLoad(t, api.ErrArg, 100, file(name, "x", 1))
		wantNoLoad(t, api.ErrArg, 100, file("a", "x", 1), file(name, "", 0), file("b", "", 0))
	}
}

// P19.1: a Safe may be 0 to all of its file's bytes.
func TestLoadSafe(t *testing.T) {
	for _, data := range []string{"", "x", "12345"} {
		for _, safe := range append(edges(), 4, 5, 6) {
			f := file("b", data, safe)
			if safe < 0 || safe > len(data) {
				wantNoLoad(t, api.ErrArg, 20, f)
				wantNoLoad(t, api.ErrArg, 20, file("a", "123456789", 0), f, file("c", "", 0))
				continue
			}
			d := loaded(t, 20, f)
			wantFiles(t, d, f)
			d.Crash(0)
			wantFiles(t, d, file("b", data[:safe], safe))
		}
	}
}

// P19.1: no two files may have one name.
func TestLoadTwice(t *testing.T) {
	wantNoLoad(t, api.ErrArg, 20, file("b", "x", 1), file("b", "x", 1))
	wantNoLoad(t, api.ErrArg, 20, file("b", "", 0), file("b", "x", 0))
	wantNoLoad(t, api.ErrArg, 20, file("b", "x", 0), file("a", "", 0), file("c", "", 0), file("b", "", 0))
	wantFiles(t, loaded(t, 20, file("b", "x", 1), file("bb", "x", 1), file("b.", "x", 0)), file("b", "x", 1), file("b.", "x", 0), file("bb", "x", 1))
}

// P19.1: the files may have just so many bytes as the room, all together.
func TestLoadFull(t *testing.T) {
	l := []api.File{file("a", "123", 0), file("b", "", 0), file("c", "4567", 4), file("d", "8", 1), file("e", "", 0)}
	for room := range 12 {
		if room < 8 {
			wantNoLoad(t, api.ErrDiskFull, room, l...)
			continue
		}
		d := loaded(t, room, l...)
		wantFiles(t, d, l...)
		wantErrno(t, "Append", d.Append("f", make([]byte, room-8+1)), api.ErrDiskFull)
		wantOk(t, d.Append("f", make([]byte, room-8)))
	}
	great := strings.Repeat("g", maxDisk)
	wantNoLoad(t, api.ErrDiskFull, maxDisk, file("a", great, 0), file("b", "x", 0))
	wantNoLoad(t, api.ErrDiskFull, maxDisk, file("a", great+"x", 0))
	wantNoLoad(t, api.ErrDiskFull, maxDisk-1, file("a", great, maxDisk))
	wantFiles(t, loaded(t, maxDisk, file("a", great, maxDisk), file("b", "", 0)), file("a", great, maxDisk), file("b", "", 0))
}

// P19.1: a room of 0 takes files without bytes, many of them.
func TestLoadWithoutBytes(t *testing.T) {
	var l []api.File
	for i := range 600 {
		l = append(l, file(fmt.Sprintf("%c%c", 'a'+i/26, 'a'+i%26), "", 0))
	}
	wantFiles(t, loaded(t, 0, l...), l...)
	wantNoLoad(t, api.ErrDiskFull, 0, append(l, file("z", "x", 0))...)
}

// P19.1, DOC.md's R5: ErrArg goes before ErrDiskFull, wherever in the list each of them is.
func TestLoadOrderOfErrors(t *testing.T) {
	great := file("great", "0123456789", 0)
	for _, bad := range []api.File{file("", "", 0), file("A", "", 0), file("a", "", 1), file("a", "", -1), file("great", "", 0), file("a", "12345678901", 12)} {
		wantNoLoad(t, api.ErrArg, 9, great, bad)
		wantNoLoad(t, api.ErrArg, 9, bad, great)
		wantNoLoad(t, api.ErrArg, 9, file("x", "1234", 0), file("y", "123456", 0), bad, great)
		wantNoLoad(t, api.ErrArg, -1, bad, great)
	}
	wantNoLoad(t, api.ErrArg, -1, great)
	wantNoLoad(t, api.ErrArg, maxDisk+1, great)
	wantNoLoad(t, api.ErrDiskFull, 9, great)
}
