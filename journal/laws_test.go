package journal_test

import (
	"fmt"
	"math/rand"
	"testing"

	"longshore/api"
	"longshore/disk"
	"longshore/journal"
)

// state is a disk that journals alone have worked on, and the log's batches there.
type state struct {
	files []api.File
	room  int
	want  [][][]byte
}

// anyState is a disk behind any calls of journals, from disk.New on, with falls between.
func anyState(t *testing.T, r *rand.Rand) state {
	t.Helper()
	s := state{room: anyOf(r, 60, 100, 200, 1000)}
	d := disk.New(s.room)
	for range 1 + r.Intn(12) {
		j, l, e := journal.Open(d)
		if e != api.OK {
			t.Fatalf("Open: %d of %s", e, seen(d))
		}
		s.want = l
		for range r.Intn(4) {
			if r.Intn(3) == 0 {
				d.Arm(r.Intn(6), anyOf(r, keeps()...))
			}
			if anyWrite(r).call(j) == api.ErrDown {
				break
			}
		}
		d.Arm(-1, 0)
		if r.Intn(2) == 0 {
			d.Crash(anyOf(r, keeps()...))
		}
		d.Start()
		if r.Intn(3) == 0 {
			d.Append("x", anyBytes(r, 60))
			d.Sync("x")
		} else {
			d.Delete("x")
		}
	}
	_, l, e := journal.Open(loaded(t, maxDisk, d.Files()...))
	if e != api.OK {
		t.Fatalf("Open: %d of %s", e, seen(d))
	}
	s.files, s.want = d.Files(), l
	return s
}

// write is a call that writes, and what it makes of a log.
type write struct {
	name  string
	call  func(j calls) api.Errno
	after func(l [][][]byte) [][][]byte
}

// anyWrite is an Add or a Shorten.
func anyWrite(r *rand.Rand) write {
	if r.Intn(3) > 0 {
		b := anyRecords(r)
		return write{"Add " + told([][][]byte{b}), func(j calls) api.Errno { return j.Add(b...) }, func(l [][][]byte) [][][]byte {
			return append(l[:len(l):len(l)], b)
		}}
	}
	var short, whole [][][]byte
	for range r.Intn(4) {
		if r.Intn(4) == 0 {
			short = append(short, nil)
			continue
		}
		b := anyRecords(r)
		short, whole = append(short, b), append(whole, b)
	}
	return write{"Shorten " + told(short), func(j calls) api.Errno { return j.Shorten(short) }, func([][][]byte) [][][]byte { return whole }}
}

// P20.6: at whichever act of a call the power fails, with any keep, behind Start the batches are those ahead of it, or those which it would have left; and with OK they are these, whatever falls then.
func TestOneStroke(t *testing.T) {
	r := rand.New(rand.NewSource(206))
	met := map[string]int{}
	for range 250 {
		s, w := anyState(t, r), anyWrite(r)
		for n := range 7 {
			for _, keep := range keeps() {
				d := loaded(t, s.room, s.files...)
				j, l, e := journal.Open(d)
				if e != api.OK || told(l) != told(s.want) {
					t.Fatalf("Open: %s, %d, want %s", told(l), e, told(s.want))
				}
				d.Arm(n, keep)
				answer := w.call(j)
				d.Crash(keep)
				d.Start()
				j, l, e = journal.Open(d)
				ahead, behind := told(s.want), told(w.after(s.want))
				if j == nil || e != api.OK || told(l) != ahead && told(l) != behind || answer == api.OK && told(l) != behind || answer == api.ErrDiskFull && told(l) != ahead {
					t.Fatalf("%s (%d acts, keep %d): %d, then %s, %d; ahead of it %s", w.name, n, keep, answer, told(l), e, ahead)
				}
				met[fmt.Sprint(answer, " ", told(l) == behind)]++
				wantSize(t, j, len(bytesOf(l...)))
				wantNothingLost(t, d, l)
			}
		}
	}
	for _, want := range []string{"0 true", "3 false", "3 true", "190 false"} {
		if met[want] < 200 {
			t.Errorf("%s: only %d times", want, met[want])
		}
	}
}

// wantNothingLost wants the same batches of each later Open.
func wantNothingLost(t *testing.T, d *disk.Disk, want [][][]byte) {
	t.Helper()
	for range 2 {
		if _, l, e := journal.Open(d); e != api.OK || told(l) != told(want) {
			t.Fatalf("Open again: %s, %d, want %s", told(l), e, told(want))
		}
	}
	if _, is := named(d, "log.new"); is {
		t.Fatalf("log.new is there: %s", seen(d))
	}
}

// P20.6: of a fall in an Open of a disk whose log is all safe nothing is lost, and nothing comes; however often it happens.
func TestFallInOpen(t *testing.T) {
	r := rand.New(rand.NewSource(207))
	falls := 0
	for range 400 {
		s := anyState(t, r)
		d := loaded(t, maxDisk, s.files...)
		if f, _ := named(d, "log"); string(f.Data) == bytesOf(s.want...) {
			d.Append("log", []byte(log("t")[:r.Intn(17)]))
		}
		d.Append("log.new", anyBytes(r, 20))
		d.Crash(1 << 62)
		d.Start()
		for n := 0; n < 5; n++ {
			d.Arm(n, anyOf(r, keeps()...))
			if _, l, e := journal.Open(d); e == api.ErrDown {
				falls++
			} else if e != api.OK || told(l) != told(s.want) {
				t.Fatalf("Open: %s, %d, want %s", told(l), e, told(s.want))
			}
			d.Start()
		}
		d.Arm(-1, 0)
		wantNothingLost(t, d, s.want)
	}
	if falls < 400 {
		t.Errorf("only %d falls", falls)
	}
}

// P20.7: Open of a disk that journals alone have worked on answers no ErrTorn, and its batches are what was told, whichever falls came between.
func TestNeverTorn(t *testing.T) {
	r := rand.New(rand.NewSource(208))
	met := map[api.Errno]int{}
	for range 600 {
		room := anyOf(r, 0, 30, 60, 100, 300, 2000)
		d := disk.New(room)
		var j *journal.Journal
		var may []string // what the log may be: told batches
		var l [][][]byte
		for range 60 {
			switch r.Intn(6) {
			case 0:
				d.Arm(r.Intn(8), anyOf(r, keeps()...))
			case 1:
				d.Crash(anyOf(r, keeps()...))
			case 2:
				d.Append("x", anyBytes(r, 40))
				d.Sync("x")
				if r.Intn(2) == 0 {
					d.Delete("x")
				}
			}
			if r.Intn(3) > 0 {
				d.Start()
			}
			if j == nil || r.Intn(5) == 0 {
				opened, now, e := journal.Open(d)
				met[e]++
				if e == api.ErrDown {
					continue
				}
				if e != api.OK || may != nil && told(now) != may[0] && told(now) != may[1] {
					t.Fatalf("Open: %s, %d, want %v, of %s", told(now), e, may, seen(d))
				}
				j, l, may = opened, now, []string{told(now), told(now)}
			}
			w := anyWrite(r)
			e := w.call(j)
			met[e]++
			switch e {
			case api.OK:
				l = w.after(l)
				may = []string{told(l), told(l)}
			case api.ErrDown:
				may[1] = told(w.after(l))
				j = nil
			}
		}
	}
	if met[api.OK] < 1000 || met[api.ErrDown] < 1000 || met[api.ErrDiskFull] < 1000 || len(met) != 3 {
		t.Errorf("only %v", met)
	}
}

// P20.7: where the disk was Loaded with a log that was not all safe, an Open without the room to cut makes safe what is no whole batch: the next one tells it.
func TestLoadedMayBeTorn(t *testing.T) {
	s := log("a") + framed("")
	d := loaded(t, len(s), file("log", s, 17))
	j := wantOpen(t, d, "a")
	wantFiles(t, d, safeFile("log", s))
	wantNoOpen(t, d, api.ErrTorn)
	wantErrno(t, "Add", j.Add([]byte("b")), api.ErrDiskFull)
	// The journal itself takes it for a tail still.
	wantOk(t, j.Shorten(nil), j.Add([]byte("b")))
	wantOpen(t, d, "b")
}

// P20.3, P20.7: a tail that is no beginning, made safe for want of room, is cut by the journal's Add as soon as there is room.
func TestLoadedTailIsCut(t *testing.T) {
	s := log("a") + framed("") + log("q")
	d := loaded(t, 100, file("log", s, 17), safeFile("x", string(aRecord(100-len(s)))))
	j := wantOpen(t, d, "a")
	wantOk(t, d.Delete("x"), j.Add([]byte("b")))
	wantLog(t, d, []string{"a", "b"})
	wantSize(t, j, 34)
}

// P20.7: a byte of a whole batch that is changed, each one and to each other value, is told by Scan and by Open where the batch's first byte is safe; else the batches ahead of it are what is there.
func TestChangedByte(t *testing.T) {
	l := []string{"a", "bc d", "efg"}
	s := log(l...)
	begins := []int{0, 17, 17 + 23}
	for at := range len(s) {
		which := 0
		for which < 2 && at >= begins[which+1] {
			which++
		}
		begin := begins[which]
		for x := 1; x < 256; x++ {
			b := []byte(s)
			b[at] ^= byte(x)
			for _, safe := range []int{0, begin, begin + 1, len(s)} {
				if safe > begin {
					wantTorn(t, string(b), safe, begin)
				} else {
					wantScan(t, string(b), safe, begin, l[:which]...)
				}
				if x&(x-1) != 0 { // Open asks Scan: not each value is needed
					continue
				}
				d := loaded(t, 1000, file("log", string(b), safe))
				if safe > begin {
					wantNoOpen(t, d, api.ErrTorn)
				} else {
					wantOpen(t, d, l[:which]...)
					wantLog(t, d, l[:which])
				}
			}
		}
	}
}

// P20.7: so it is of each byte of the last batch, when bytes of another one stand behind it.
func TestChangedByteAheadOfTail(t *testing.T) {
	s := log("a", "bc")
	tail := log("d")[:9]
	for at := range len(s) {
		b := []byte(s + tail)
		b[at] ^= 0x10
		begin := min(at/17, 1) * 17
		wantTorn(t, string(b), len(b), begin)
		wantTorn(t, string(b), len(s), begin)
	}
}
