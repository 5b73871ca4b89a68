package journal_test

import (
	"bytes"
	"fmt"
	"testing"

	"longshore/api"
	"longshore/disk"
	"longshore/journal"
)

// P20.2: ErrArg of no disk; ErrDown of one that is down, ahead of ErrTorn.
func TestErrorsOfOpen(t *testing.T) {
	wantNoOpen(t, nil, api.ErrArg)
	torn := log("a") + "12345678"
	for _, files := range [][]api.File{nil, {file("log", "", 0)}, {safeFile("log", log("a"))}, {safeFile("log", log("a")+"1")}, {safeFile("log", torn)}, {safeFile("log.new", "x")}} {
		d := loaded(t, 1000, files...)
		d.Crash(0)
		wantNoOpen(t, d, api.ErrDown)
		wantNoOpen(t, d, api.ErrDown)
		wantFiles(t, d, files...)
	}
	d := loaded(t, 1000, safeFile("log", torn))
	wantNoOpen(t, d, api.ErrTorn)
	d.Crash(0)
	wantNoOpen(t, d, api.ErrDown)
	d.Start()
	wantNoOpen(t, d, api.ErrTorn)
}

// P20.2: Open answers ErrTorn just where Scan does, of the log's bytes with as many as are safe.
func TestTornOpen(t *testing.T) {
	for _, r := range rests() {
		s := log("a") + r.data
		for _, safe := range []int{0, 16, 17, 18, len(s)} {
			d := loaded(t, maxDisk, file("log", s, safe), file("log.new", "x", 0))
			before := seen(d)
			if r.torn && safe > 17 {
				wantNoOpen(t, d, api.ErrTorn)
				if seen(d) != before {
					t.Fatalf("%s: something has changed: %s", r.name, seen(d))
				}
				continue
			}
			wantSize(t, wantOpen(t, d, "a"), 17)
			wantLog(t, d, []string{"a"})
		}
	}
}

// P20.2: a log without batches, and none, is an empty log; it is made by the first Add.
func TestOpenOfNothing(t *testing.T) {
	for _, files := range [][]api.File{nil, {file("log", "", 0)}, {safeFile("x", "x")}, {safeFile("log.new", log("a"))}} {
		d := loaded(t, 1000, files...)
		j := wantOpen(t, d)
		wantSize(t, j, 0)
		wantOk(t, j.Add([]byte("a")))
		wantSize(t, j, 17)
		wantBatches(t, d, "a")
	}
}

// aRecord is one of so many bytes.
func aRecord(n int) []byte { return bytes.Repeat([]byte{'r'}, n) }

// P20.3, P20.4: a record has 1 to 1049600 bytes; where one of several is none nothing is done.
func TestRecords(t *testing.T) {
	d := disk.New(maxDisk)
	j := wantOpen(t, d)
	for _, n := range []int{1, 2, maxRecord - 1, maxRecord} {
		r := aRecord(n)
		wantOk(t, j.Add(r))
		wantOk(t, j.Add([]byte("x"), r))
		wantSize(t, j, 2*(16+n)+5)
		wantOk(t, j.Shorten([][][]byte{{r}, {}, {r, []byte("x")}}))
		wantSize(t, j, 2*(16+n)+5)
		if _, l, e := journal.Open(copied(t, d)); e != api.OK || told(l) != told([][][]byte{{r}, {r, []byte("x")}}) {
			t.Errorf("%d bytes: %s, %d", n, told(l), e)
		}
		wantOk(t, j.Shorten(nil))
	}
	wantOk(t, j.Add([]byte("a")))
	before := seen(d)
	d.Arm(0, 0)
	for _, bad := range [][]byte{nil, {}, aRecord(maxRecord + 1), aRecord(2 * maxRecord)} {
		x, r := []byte("x"), aRecord(maxRecord)
		for _, l := range [][][]byte{{bad}, {bad, x}, {x, bad}, {x, bad, r}, {x, r, bad}, {bad, bad}} {
			wantErrno(t, "Add", j.Add(l...), api.ErrRecord)
			for _, all := range [][][][]byte{{l}, {{x}, l}, {l, {x}}, {nil, l, nil}} {
				wantErrno(t, "Shorten", j.Shorten(all), api.ErrRecord)
			}
		}
	}
	if seen(d) != before {
		t.Errorf("%s, before: %s", seen(d), before)
	}
	wantSize(t, j, 17)
	wantErrno(t, "Append", d.Append("x", nil), api.ErrDown)
}

// P20.3, P20.4: ErrRecord goes ahead of a want of room.
func TestRecordAheadOfRoom(t *testing.T) {
	d := loaded(t, 20, safeFile("log", log("a")))
	j := wantOpen(t, d, "a")
	wantErrno(t, "Add", j.Add([]byte("x"), nil), api.ErrRecord)
	wantErrno(t, "Shorten", j.Shorten([][][]byte{records("x"), records("")}), api.ErrRecord)
	wantErrno(t, "Add", j.Add([]byte("x")), api.ErrDiskFull)
	wantErrno(t, "Shorten", j.Shorten(list("x")), api.ErrDiskFull)
	wantErrno(t, "Add()", j.Add(), api.OK)
	wantLog(t, d, []string{"a"})
	wantSize(t, j, 17)
}

// A journal is down, once a call of it has answered ErrDown, or found that the disk is not up; also when the disk is up again, and when another one was opened on it.
func TestDownForGood(t *testing.T) {
	asks := []func(j calls) api.Errno{adding("x"), adding(), adding(""), shortening(), shortening("x"), func(j calls) api.Errno { return j.Shorten([][][]byte{{nil}}) }}
	for i, ask := range asks {
		for _, falls := range []func(d *disk.Disk){
			func(d *disk.Disk) { d.Crash(0) },
			func(d *disk.Disk) { d.Arm(0, 0); d.Append("x", []byte("x")) },
		} {
			d := loaded(t, 1000, safeFile("log", log("a", "b")))
			j := wantOpen(t, d, "a", "b")
			falls(d)
			wantErrno(t, fmt.Sprint("call ", i), ask(j), api.ErrDown)
			wantDown(t, j)
			d.Start()
			wantDown(t, j)
			other := wantOpen(t, d, "a", "b")
			wantDown(t, j)
			wantOk(t, other.Add([]byte("c")))
			wantDown(t, j)
			wantSize(t, j, 34)
			wantSize(t, other, 51)
			wantBatches(t, d, "a", "b", "c")
		}
	}
}

// A journal that was not asked while the disk was down is not: nothing is lost by a fall between two calls, and nothing comes.
func TestNotDown(t *testing.T) {
	for _, keep := range keeps() {
		d := disk.New(1000)
		j := wantOpen(t, d)
		var want []string
		for i := range 8 {
			d.Crash(keep)
			wantSize(t, j, 17*len(want))
			d.Start()
			wantBatches(t, d, want...)
			if i%4 == 3 {
				want = want[:1]
				wantOk(t, j.Shorten(list(want...)))
				continue
			}
			want = append(want, fmt.Sprint(i))
			wantOk(t, j.Add([]byte(fmt.Sprint(i))))
		}
		d.Crash(keep)
		d.Start()
		wantOpen(t, d, want...)
		wantLog(t, d, want)
	}
}

// P20.5: Size behind each call: of OK it is what the log's batches have; all else leaves it.
func TestSize(t *testing.T) {
	d := loaded(t, 200, safeFile("log", log("a", "b c")+batch("d")[:16]))
	j := wantOpen(t, d, "a", "b c")
	wantSize(t, j, 39)
	wantOk(t, j.Add())
	wantSize(t, j, 39)
	wantOk(t, j.Add(records("x", "yz")...))
	wantSize(t, j, 39+23)
	wantErrno(t, "Add", j.Add(nil), api.ErrRecord)
	wantErrno(t, "Add", j.Add(aRecord(200)), api.ErrDiskFull)
	wantErrno(t, "Shorten", j.Shorten([][][]byte{{nil}}), api.ErrRecord)
	wantErrno(t, "Shorten", j.Shorten([][][]byte{{aRecord(200)}}), api.ErrDiskFull)
	wantSize(t, j, 62)
	wantOk(t, j.Shorten(list("", "q")))
	wantSize(t, j, 17)
	wantOk(t, j.Shorten(list("")))
	wantSize(t, j, 0)
	wantOk(t, j.Add(records("z")...))
	d.Crash(0)
	wantSize(t, j, 17)
	wantErrno(t, "Add", j.Add(records("z")...), api.ErrDown)
	wantErrno(t, "Shorten", j.Shorten(nil), api.ErrDown)
	wantSize(t, j, 17)
	d.Start()
	wantSize(t, wantOpen(t, d, "z"), 17)
	wantOk(t, d.Delete("log"))
	wantSize(t, j, 17)
}

// P20.5: Size does not tell a tail that there was no room to cut.
func TestSizeWithTail(t *testing.T) {
	d := loaded(t, roomOfTailed, tailed()...)
	j := wantOpen(t, d, "a", "b c")
	wantSize(t, j, 39)
	wantErrno(t, "Add", j.Add([]byte("x")), api.ErrDiskFull)
	wantSize(t, j, 39)
	wantOk(t, d.Delete("x"), j.Add([]byte("x")))
	wantSize(t, j, 39+17)
}

// The disk's other files don't matter, whatever they are called, and are not touched.
func TestOtherFiles(t *testing.T) {
	others := []api.File{safeFile("a", log("q")), file("log.", "junkjunkjunk", 3), file("log.newer", "n", 0), file("logs", log("r"), 1)}
	d := loaded(t, 1000, append([]api.File{safeFile("log", log("a")+"1"), file("log.new", "new", 0)}, others...)...)
	j := wantOpen(t, d, "a")
	want := func(batches ...string) {
		t.Helper()
		wantFiles(t, d, append([]api.File{others[0], safeFile("log", log(batches...))}, others[1:]...)...)
	}
	want("a")
	wantOk(t, j.Add([]byte("b")))
	want("a", "b")
	wantOk(t, j.Shorten(list("c")))
	want("c")
}

// Beside an open journal another one may be opened, to look at the log: the first one goes on.
func TestLookAtOpenLog(t *testing.T) {
	d := disk.New(1000)
	j := wantOpen(t, d)
	var want []string
	for i := range 6 {
		want = append(want, fmt.Sprint("r", i))
		wantOk(t, j.Add([]byte(want[i])))
		wantSize(t, wantOpen(t, d, want...), 18*(i+1))
	}
	wantOk(t, j.Shorten(list("s")))
	wantOpen(t, d, "s")
	wantOk(t, j.Add([]byte("t")))
	wantOpen(t, d, "s", "t")
}

// A tail that another journal had the room to cut is not cut again.
func TestTailCutByAnother(t *testing.T) {
	d := loaded(t, roomOfTailed, tailed()...)
	j := wantOpen(t, d, "a", "b c")
	wantOk(t, d.Delete("x"))
	wantOpen(t, d, "a", "b c")
	wantLog(t, d, []string{"a", "b c"})
	d.Arm(2, 0)
	wantOk(t, j.Add([]byte("y")))
	wantErrno(t, "Append", d.Append("probe", nil), api.ErrDown)
	d.Start()
	wantOpen(t, d, "a", "b c", "y")
}

// P20.6, P20.7: what an Open has left in log.new when the power failed does not come into the log of a journal that was not told.
func TestLeftByAnother(t *testing.T) {
	for _, keep := range keeps() {
		for n := range 3 {
			for _, c := range []struct {
				call func(j calls) api.Errno
				want []string
			}{{adding("y"), []string{"a", "b c", "y"}}, {shortening("s"), []string{"s"}}, {shortening(), nil}} {
				d := loaded(t, roomOfTailed, tailed()...)
				j := wantOpen(t, d, "a", "b c")
				wantOk(t, d.Delete("x"))
				d.Arm(n, keep)
				wantNoOpen(t, d, api.ErrDown)
				d.Start()
				wantOk(t, c.call(j))
				wantOpen(t, d, c.want...)
				wantLog(t, d, c.want)
			}
		}
	}
}
