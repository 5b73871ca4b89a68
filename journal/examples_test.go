package journal_test

import (
	"testing"

	"longshore/api"
	"longshore/disk"
)

// The chapter's errors, by their numbers.
func TestNumbers(t *testing.T) {
	for _, c := range []struct{ got, want api.Errno }{{api.OK, 0}, {api.ErrArg, 1}, {api.ErrDown, 3}, {api.ErrDiskFull, 190}, {api.ErrRecord, 200}, {api.ErrTorn, 201}} {
		if c.got != c.want {
			t.Errorf("%d, want %d", c.got, c.want)
		}
	}
}

// ofA is B("a"), as the chapter writes it.
const ofA = "\x00\x00\x00\x05\x51\x2e\x2b\x93\x00\x00\x00\x01\x61\x15\x6e\xc1\x93"

// The chapter's table of examples: the rows of Scan.
func TestExamplesOfScan(t *testing.T) {
	wantScan(t, "", 0, 0)
	wantScan(t, ofA, 0, 17, "a")
	wantNoScan(t, ofA, -1)
	wantScan(t, ofA+ofA[:1], 18, 17, "a")
	turned := ofA[:16] + "\x92"
	wantTorn(t, turned, 17, 0)
	wantScan(t, turned, 0, 0)
}

// The chapter's table of examples: the rows of a journal.
func TestExamples(t *testing.T) {
	d := disk.New(1000)
	j := wantOpen(t, d)
	wantErrno(t, "Add()", j.Add(), 0)
	wantErrno(t, "Add(a, b)", j.Add([]byte("a"), []byte("b")), 0)
	wantErrno(t, "Add of an empty record", j.Add([]byte("")), 200)
	wantSize(t, j, len(batch("a", "b")))

	d.Arm(0, 3)
	wantErrno(t, "Add(c)", j.Add([]byte("c")), 3)
	wantFiles(t, d, safeFile("log", batch("a", "b")+batch("c")[:3]))
	wantErrno(t, "Add(d)", j.Add([]byte("d")), 3)
	d.Start()
	j = wantOpen(t, d, "a b")
	wantFiles(t, d, safeFile("log", batch("a", "b")))

	d.Arm(1, 0)
	wantErrno(t, "Add(c)", j.Add([]byte("c")), 3)
	d.Start()
	j = wantOpen(t, d, "a b")

	wantErrno(t, "Shorten", j.Shorten(list("x", "", "y z")), 0)
	wantOpen(t, copied(t, d), "x", "y z")

	d.Arm(2, 9)
	wantErrno(t, "Shorten(none)", j.Shorten(nil), 3)
	d.Start()
	wantOpen(t, d, "x", "y z")
	wantFiles(t, d, safeFile("log", batch("x")+batch("y", "z")))
}
