package journal_test

import (
	"fmt"
	"strings"
	"testing"

	"longshore/api"
	"longshore/disk"
	"longshore/journal"
)

// scene is a disk, a call, and just the acts that it makes there when the power does not fail.
type scene struct {
	name   string
	room   int
	files  []api.File
	then   act // what somebody does behind the Open, where that is not the call
	call   func(j calls) api.Errno
	acts   []act
	want   api.Errno
	before []string // the log's batches ahead of the call
	after  []string // and behind it
}

func adding(words ...string) func(j calls) api.Errno {
	return func(j calls) api.Errno { return j.Add(records(words...)...) }
}

func shortening(batches ...string) func(j calls) api.Errno {
	return func(j calls) api.Errno { return j.Shorten(list(batches...)) }
}

// set is the scene's disk, its journal (none, if Open is the call), and another disk that is like it.
func (s scene) set(t *testing.T) (*disk.Disk, *journal.Journal, *disk.Disk) {
	t.Helper()
	d := loaded(t, s.room, s.files...)
	if s.call == nil {
		return d, nil, loaded(t, s.room, s.files...)
	}
	j := wantOpen(t, d, s.before...)
	if s.then != nil {
		wantOk(t, s.then(d))
	}
	return d, j, loaded(t, s.room, d.Files()...)
}

// run makes the call.
func (s scene) run(d *disk.Disk, j *journal.Journal) api.Errno {
	if s.call != nil {
		return s.call(j)
	}
	_, _, e := journal.Open(d)
	return e
}

// wantScene wants just the acts, in their order: told by letting the power fail in each of them, with any keep, on the scene's disk and on one on which they are done by hand.
func wantScene(t *testing.T, s scene) {
	t.Helper()
	for n := -1; n <= len(s.acts)+1; n++ {
		for _, keep := range keeps() {
			d, j, twin := s.set(t)
			size := 0
			if j != nil {
				size = j.Size()
			}
			d.Arm(n, keep)
			twin.Arm(n, keep)
			got, want := s.run(d, j), s.want
			if e := do(twin, s.acts...); e == api.ErrDown {
				want = e
			} else {
				wantErrno(t, s.name+": the acts by hand", e, api.OK)
			}
			what := fmt.Sprintf("%s, %d acts, keep %d", s.name, n, keep)
			wantErrno(t, what, got, want)
			if seen(d) != seen(twin) {
				t.Fatalf("%s: %s, want %s", what, seen(d), seen(twin))
			}
			if j != nil {
				s.wantBehind(t, what, d, j, got, size)
			}
			if d.Up() && probed(d) != probed(twin) {
				t.Fatalf("%s: more acts, or fewer: %s, want %s", what, seen(d), seen(twin))
			}
		}
	}
}

// wantBehind wants the batches and the size that a call has left; and one that has answered ErrDown has left the journal down.
func (s scene) wantBehind(t *testing.T, what string, d *disk.Disk, j *journal.Journal, got api.Errno, size int) {
	t.Helper()
	if got == api.OK {
		size = len(log(s.after...))
	}
	wantSize(t, j, size)
	switch got {
	case api.OK:
		wantBatches(t, d, s.after...)
		wantBatches(t, fallen(t, d, 0), s.after...)
	case api.ErrDown:
		c := copied(t, d)
		_, l, e := journal.Open(c)
		if e != api.OK || told(l) != told(list(s.before...)) && told(l) != told(list(s.after...)) {
			t.Fatalf("%s: behind the fall %s, %d", what, told(l), e)
		}
		wantDown(t, j)
	default:
		wantBatches(t, d, s.before...)
	}
}

// fallen is a copy of a disk, behind a fall.
func fallen(t *testing.T, d *disk.Disk, keep int) *disk.Disk {
	t.Helper()
	c := copied(t, d)
	c.Crash(keep)
	c.Start()
	return c
}

// wantDown wants a journal that answers ErrDown, whatever it is asked, and does nothing.
func wantDown(t *testing.T, j calls) {
	t.Helper()
	size := j.Size()
	for range 2 {
		wantErrno(t, "Add()", j.Add(), api.ErrDown)
		wantErrno(t, "Add", j.Add([]byte("x")), api.ErrDown)
		wantErrno(t, "Add of no record", j.Add(nil), api.ErrDown)
		wantErrno(t, "Shorten", j.Shorten(nil), api.ErrDown)
		wantErrno(t, "Shorten", j.Shorten(list("x")), api.ErrDown)
		wantErrno(t, "Shorten to no record", j.Shorten([][][]byte{{nil}}), api.ErrDown)
	}
	wantSize(t, j, size)
}

// P20.2: the acts of Open, with each kind of log, with and without a log.new; other files don't matter.
func TestActsOfOpen(t *testing.T) {
	ab := log("a", "b c")
	tail := batch("d")[:11]
	junk := "junk of many bytes"
	for _, c := range []struct {
		name string
		log  []api.File
		acts []act
	}{
		{"no log", nil, nil},
		{"an empty log", []api.File{file("log", "", 0)}, nil},
		{"all is safe", []api.File{safeFile("log", ab)}, nil},
		{"nothing is safe", []api.File{file("log", ab, 0)}, []act{syncing("log")}},
		{"a batch is safe", []api.File{file("log", ab, 17)}, []act{syncing("log")}},
		{"all but a byte is safe", []api.File{file("log", ab, len(ab)-1)}, []act{syncing("log")}},
		{"a tail", []api.File{safeFile("log", ab+tail)}, replacing(ab)},
		{"a tail of one byte", []api.File{safeFile("log", ab+tail[:1])}, replacing(ab)},
		{"nothing but a tail", []api.File{safeFile("log", tail)}, replacing("")},
		{"a tail that is not safe", []api.File{file("log", ab+tail, len(ab))}, replacing(ab)},
		{"a tail of which a byte is not safe", []api.File{file("log", ab+tail, len(ab+tail)-1)}, replacing(ab)},
		{"a tail, and nothing is safe", []api.File{file("log", ab+tail, 0)}, replacing(ab)},
		{"a tail that begins nothing", []api.File{file("log", ab+junk, len(ab))}, replacing(ab)},
		{"nothing but what begins nothing", []api.File{file("log", junk, 0)}, replacing("")},
	} {
		for _, left := range [][]api.File{nil, {file("log.new", "", 0)}, {file("log.new", "new", 0)}, {file("log.new", ab, 3)}, {safeFile("log.new", log("z")+"z")}} {
			for _, others := range [][]api.File{nil, {file("alog", "al", 1), file("log.", "l.", 0), file("log.ne", "", 0), file("log.newer", "n", 1), file("new", "o", 0), file("z", "", 0)}} {
				acts := c.acts
				if left != nil {
					acts = append([]act{deleting("log.new")}, c.acts...)
				}
				files := append(append(append([]api.File{}, others...), left...), c.log...)
				wantScene(t, scene{name: c.name, room: 300, files: files, acts: acts})
			}
		}
	}
}

// P20.2: what is wrong with a log is told ahead of all acts: a log.new stays.
func TestNoActsOfOpen(t *testing.T) {
	torn := log("a") + framed("")
	for _, left := range [][]api.File{nil, {file("log.new", "new", 1)}} {
		files := append(left, file("log", torn, len(torn)-1), file("z", "z", 0))
		wantScene(t, scene{name: "torn", room: 100, files: files, want: api.ErrTorn})
		d := loaded(t, 100, files...)
		before := seen(d)
		wantNoOpen(t, d, api.ErrTorn)
		if seen(d) != before {
			t.Errorf("%s, before: %s", seen(d), before)
		}
	}
}

// P20.2: without the room to cut a tail it stays, and is synced where it is not safe; what a log.new has had is room for it.
func TestRoomOfOpen(t *testing.T) {
	ab := log("a", "b c")
	tail := batch("d")[:11]
	whole, cut := len(ab+tail), len(ab)
	torn := ab + framed("")
	for _, c := range []struct {
		name  string
		room  int
		files []api.File
		acts  []act
	}{
		{"just the room", whole + cut, []api.File{safeFile("log", ab+tail)}, replacing(ab)},
		{"a byte too little", whole + cut - 1, []api.File{safeFile("log", ab+tail)}, nil},
		{"no room at all", whole, []api.File{safeFile("log", ab+tail)}, nil},
		{"no room at all, not safe", whole, []api.File{file("log", ab+tail, len(ab)+2)}, []act{syncing("log")}},
		{"no room at all, nothing safe", whole, []api.File{file("log", ab+tail, 0)}, []act{syncing("log")}},
		{"just the room, not safe", whole + cut, []api.File{file("log", ab+tail, 5)}, replacing(ab)},
		{"no room for what begins nothing", len(torn), []api.File{file("log", torn, len(ab))}, []act{syncing("log")}},
		{"nothing but a tail needs no room", len(tail), []api.File{safeFile("log", tail)}, replacing("")},
		{"the room of the log.new", whole + cut, []api.File{safeFile("log", ab+tail), safeFile("log.new", ab)}, append([]act{deleting("log.new")}, replacing(ab)...)},
		{"the room of a shorter log.new", whole + cut - 1, []api.File{safeFile("log", ab+tail), safeFile("log.new", ab[1:])}, []act{deleting("log.new")}},
		{"another file takes the room", whole + cut, []api.File{file("log", ab+tail, 1), safeFile("x", "x")}, []act{syncing("log")}},
	} {
		wantScene(t, scene{name: c.name, room: c.room, files: c.files, acts: c.acts})
	}
}

// written are the acts of an Add to a log without a tail.
func written(s string) []act { return []act{appending("log", s), syncing("log")} }

// tailed is a log with a tail that there is no room to cut, for a file x that takes it.
func tailed() []api.File {
	return []api.File{safeFile("log", log("a", "b c")+batch("d")[:11]), safeFile("x", strings.Repeat("x", 200))}
}

const roomOfTailed = 251

// P20.3: the acts of Add.
func TestActsOfAdd(t *testing.T) {
	abc := []string{"a", "b c"}
	cutAnd := func(s string) []act { return append(replacing(log(abc...)), written(s)...) }
	for _, s := range []scene{
		{name: "the first", room: 100, call: adding("x"), acts: written(batch("x")), after: []string{"x"}},
		{name: "to an empty log", room: 100, files: []api.File{file("log", "", 0)}, call: adding("x", "yz"), acts: written(batch("x", "yz")), after: []string{"x yz"}},
		{name: "to a log", room: 100, files: []api.File{safeFile("log", log(abc...))}, call: adding("x"), acts: written(batch("x")), before: abc, after: []string{"a", "b c", "x"}},
		{name: "to a log that was not all safe", room: 100, files: []api.File{file("log", log(abc...), 3)}, call: adding("x"), acts: written(batch("x")), before: abc, after: []string{"a", "b c", "x"}},
		{name: "to a log that was cut", room: 100, files: []api.File{safeFile("log", log(abc...)+"123")}, call: adding("x"), acts: written(batch("x")), before: abc, after: []string{"a", "b c", "x"}},
		{name: "just the room", room: 34, files: []api.File{safeFile("log", log("a"))}, call: adding("x"), acts: written(batch("x")), before: []string{"a"}, after: []string{"a", "x"}},
		{name: "a byte too little", room: 33, files: []api.File{safeFile("log", log("a"))}, call: adding("x"), want: api.ErrDiskFull, before: []string{"a"}},
		{name: "of nothing", room: 100, files: []api.File{safeFile("log", log(abc...))}, call: adding(), before: abc, after: abc},
		{name: "of nothing to no log", room: 100, call: adding()},
		{name: "of no record", room: 100, files: []api.File{safeFile("log", log(abc...))}, call: adding("x", ""), want: api.ErrRecord, before: abc},
		{name: "to a tail", room: roomOfTailed, files: tailed(), then: deleting("x"), call: adding("x", "y"), acts: cutAnd(batch("x", "y")), before: abc, after: []string{"a", "b c", "x y"}},
		{name: "to a tail without room to cut", room: roomOfTailed, files: tailed(), call: adding("x"), want: api.ErrDiskFull, before: abc},
		{name: "to a tail, with room to cut alone", room: roomOfTailed, files: tailed(), then: deleting("x"), call: adding(strings.Repeat("x", 197)), acts: replacing(log(abc...)), want: api.ErrDiskFull, before: abc},
		{name: "to a tail, with just the room behind the cut", room: roomOfTailed, files: tailed(), then: deleting("x"), call: adding(strings.Repeat("x", 196)), acts: cutAnd(batch(strings.Repeat("x", 196))), before: abc, after: []string{"a", "b c", strings.Repeat("x", 196)}},
		{name: "of nothing to a tail", room: roomOfTailed, files: tailed(), then: deleting("x"), call: adding(), before: abc, after: abc},
		{name: "of no record to a tail", room: roomOfTailed, files: tailed(), then: deleting("x"), call: adding("", "x"), want: api.ErrRecord, before: abc},
		{name: "to nothing but a tail", room: 17, files: []api.File{safeFile("log", batch("d")[:16])}, call: adding("x"), acts: written(batch("x")), after: []string{"x"}},
	} {
		wantScene(t, s)
	}
}

// P20.4: the acts of Shorten.
func TestActsOfShorten(t *testing.T) {
	abc := []string{"a", "b c"}
	xyz := []string{"x", "y z"}
	for _, s := range []scene{
		{name: "no log to none", room: 100, call: shortening(), acts: replacing("")},
		{name: "no log to some", room: 100, call: shortening(xyz...), acts: replacing(log(xyz...)), after: xyz},
		{name: "to none", room: 100, files: []api.File{safeFile("log", log(abc...))}, call: shortening(), acts: replacing(""), before: abc},
		{name: "to one without records", room: 100, files: []api.File{safeFile("log", log(abc...))}, call: shortening("", "", ""), acts: replacing(""), before: abc},
		{name: "to some", room: 100, files: []api.File{safeFile("log", log(abc...))}, call: shortening(xyz...), acts: replacing(log(xyz...)), before: abc, after: xyz},
		{name: "with some that have no records", room: 100, files: []api.File{safeFile("log", log(abc...))}, call: shortening("", "x", "", "", "y z", ""), acts: replacing(log(xyz...)), before: abc, after: xyz},
		{name: "to the same", room: 100, files: []api.File{safeFile("log", log(abc...))}, call: shortening(abc...), acts: replacing(log(abc...)), before: abc, after: abc},
		{name: "to more", room: 100, files: []api.File{safeFile("log", log("a"))}, call: shortening("a", "b c", "d"), acts: replacing(log("a", "b c", "d")), before: []string{"a"}, after: []string{"a", "b c", "d"}},
		{name: "just the room", room: 34, files: []api.File{safeFile("log", log("a"))}, call: shortening("x"), acts: replacing(log("x")), before: []string{"a"}, after: []string{"x"}},
		{name: "a byte too little", room: 33, files: []api.File{safeFile("log", log("a"))}, call: shortening("x"), want: api.ErrDiskFull, before: []string{"a"}},
		{name: "no room, to none", room: 17, files: []api.File{safeFile("log", log("a"))}, call: shortening(), acts: replacing(""), before: []string{"a"}},
		{name: "to no record", room: 100, files: []api.File{safeFile("log", log(abc...))}, call: func(j calls) api.Errno { return j.Shorten([][][]byte{records("x"), records("y", "")}) }, want: api.ErrRecord, before: abc},
		{name: "a tail, to some", room: roomOfTailed, files: tailed(), then: deleting("x"), call: shortening(xyz...), acts: replacing(log(xyz...)), before: abc, after: xyz},
		{name: "a tail, to none, without room to cut", room: roomOfTailed, files: tailed(), call: shortening(), acts: replacing(""), before: abc},
		{name: "a tail, without the room", room: roomOfTailed, files: tailed(), call: shortening("x"), want: api.ErrDiskFull, before: abc},
	} {
		wantScene(t, s)
	}
}

// P20.3, P20.4: behind a Shorten, and behind an Add that has cut it, there is no tail: the next Add makes two acts.
func TestTailIsGone(t *testing.T) {
	for _, first := range []func(j calls) api.Errno{adding("x"), shortening("x"), shortening(), shortening("a", "b c")} {
		d := loaded(t, roomOfTailed, tailed()...)
		j := wantOpen(t, d, "a", "b c")
		wantOk(t, d.Delete("x"), first(j))
		size := j.Size()
		d.Arm(2, 0)
		wantOk(t, j.Add([]byte("y")))
		wantSize(t, j, size+17)
		wantErrno(t, "Append", d.Append("probe", nil), api.ErrDown)
	}
}

// P20.3: an Add that was cut short by a want of room goes on where it was: the tail, once cut, is not cut again.
func TestAddAgain(t *testing.T) {
	d := loaded(t, roomOfTailed, tailed()...)
	j := wantOpen(t, d, "a", "b c")
	for range 3 {
		before := seen(d)
		wantErrno(t, "Add", j.Add([]byte("y")), api.ErrDiskFull)
		if seen(d) != before {
			t.Fatalf("%s, before: %s", seen(d), before)
		}
	}
	wantOk(t, d.Delete("x"))
	great := []byte(strings.Repeat("g", 240))
	wantErrno(t, "Add", j.Add(great), api.ErrDiskFull)
	wantLog(t, d, []string{"a", "b c"})
	wantSize(t, j, len(log("a", "b c")))
	d.Arm(2, 0)
	wantErrno(t, "Add", j.Add(great), api.ErrDiskFull)
	wantOk(t, j.Add([]byte("y")))
	wantErrno(t, "Append", d.Append("probe", nil), api.ErrDown)
	d.Start()
	wantOpen(t, d, "a", "b c", "y")
}
