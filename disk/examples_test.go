package disk_test

import (
	"testing"

	"longshore/api"
	"longshore/disk"
)

// The chapter's errors, by their numbers, and its limit.
func TestNumbers(t *testing.T) {
	for _, c := range []struct{ got, want api.Errno }{{api.OK, 0}, {api.ErrArg, 1}, {api.ErrDown, 3}, {api.ErrDiskFull, 190}, {api.ErrPlace, 191}, {api.ErrSafe, 192}} {
		if c.got != c.want {
			t.Errorf("%d, want %d", c.got, c.want)
		}
	}
	if api.MaxDisk != maxDisk {
		t.Errorf("MaxDisk: %d", api.MaxDisk)
	}
}

// The chapter's table of examples, up to the row of the Crash.
func TestExamples(t *testing.T) {
	if disk.New(-1) != nil || disk.New(16777217) != nil {
		t.Error("New: not nil")
	}
	d := made(t, 10)
	wantErrno(t, "Append", d.Append("log", []byte{1, 2, 3}), 0)
	wantErrno(t, "Sync", d.Sync("log"), 0)
	wantErrno(t, "Append", d.Append("log", []byte{4, 5}), 0)
	wantFiles(t, d, file("log", "\x01\x02\x03\x04\x05", 3))
	wantErrno(t, "Append of six bytes", d.Append("log", []byte{6, 7, 8, 9, 10, 11}), 190)
	wantErrno(t, "Append to Log", d.Append("Log", []byte{1}), 1)
	wantErrno(t, "Append of nothing", d.Append("a", nil), 0)
	wantFiles(t, d, file("a", "", 0), file("log", "\x01\x02\x03\x04\x05", 3))
	wantErrno(t, "Sync", d.Sync("b"), 191)
	wantNoRead(t, d, "b", 191)
	wantErrno(t, "Rename", d.Rename("log", "b"), 192)
	d.Crash(1)
	wantNoRead(t, d, "log", 3)
	wantUp(t, d, false)
	wantFiles(t, d, file("a", "", 0), file("log", "\x01\x02\x03\x04", 4))
	d.Start()
	wantErrno(t, "Rename", d.Rename("log", "a"), 0)
	wantFiles(t, d, file("a", "\x01\x02\x03\x04", 4))
	goOnWithExamples(t, d)
}

// goOnWithExamples is the rows behind the Rename, of a disk with one file: a, of the bytes 1 2 3 4, all safe.
func goOnWithExamples(t *testing.T, d *disk.Disk) {
	t.Helper()
	d.Arm(1, 2)
	wantErrno(t, "Append", d.Append("a", []byte{5}), 0)
	wantErrno(t, "Append", d.Append("a", []byte{6, 7, 8}), 3)
	wantFiles(t, d, file("a", "\x01\x02\x03\x04\x05\x06", 6))
	wantUp(t, d, false)
	d.Start()
	d.Arm(0, 9)
	wantErrno(t, "Sync", d.Sync("a"), 3)
	wantFiles(t, d, file("a", "\x01\x02\x03\x04\x05\x06", 6))
	d.Start()
	d.Arm(0, 0)
	d.Arm(-1, 0)
	wantErrno(t, "Delete", d.Delete("a"), 0)
	wantFiles(t, d)
	wantUp(t, d, true)
}

// The chapter's table of examples: Load.
func TestExamplesOfLoad(t *testing.T) {
	wantNoLoad(t, api.ErrArg, 9, file("b", "\x01\x02", 3))
	wantNoLoad(t, api.ErrDiskFull, 1, file("b", "\x01\x02", 1))
	wantNoLoad(t, api.ErrArg, 9, file("b", "", 0), file("b", "", 0))
}
