package disk_test

import (
	"bytes"
	"cmp"
	"fmt"
	"reflect"
	"runtime"
	"slices"
	"strings"
	"testing"
	"time"
	"unsafe"

	"longshore/api"
	"longshore/disk"
)

// lies is where a list lies, up to the end of its room.
type lies struct{ first, behind uintptr }

func place[T any](l []T) lies {
	v := reflect.ValueOf(l)
	return lies{v.Pointer(), v.Pointer() + uintptr(cap(l))*reflect.TypeFor[T]().Size()}
}

// places are where a list of files and the bytes of each lie, of those that stand in its room too.
func places(l []api.File) []lies {
	all := []lies{place(l)}
	for _, f := range l[:cap(l)] {
		all = append(all, place(f.Data))
	}
	return all
}

// apart tells whether no two lists share memory.
func apart(all ...lies) bool {
	all = slices.DeleteFunc(all, func(l lies) bool { return l.first == l.behind })
	slices.SortFunc(all, func(a, b lies) int { return cmp.Compare(a.first, b.first) })
	for i := 1; i < len(all); i++ {
		if all[i].first < all[i-1].behind {
			return false
		}
	}
	return true
}

// scribble overwrites bytes, with their room.
func scribble(b []byte) {
	b = b[:cap(b)]
	for i := range b {
		b[i] = '#'
	}
}

// roomy is bytes with room to spare in which a mark stands.
func roomy(s string) []byte { return []byte(s + "mark")[:len(s)] }

// withRoom is bytes as text, with what stands in the room behind them.
func withRoom(b []byte) string { return fmt.Sprintf("%q", b[:cap(b)]) }

// The helpers above see what they are to see.
func TestRoomIsSeen(t *testing.T) {
	l := make([]byte, 2, 4)
	if apart(place(l[:1]), place(l)) || apart(place(l), place(l[1:2])) || !apart(place(l[:1:1]), place(l[1:])) || !apart(place(l), place(slices.Clone(l)), place(l[:0:0])) {
		t.Error("pieces of a list")
	}
	f := []api.File{{Data: l}, {Data: l[:1]}}
	if apart(places(f)...) || apart(places(append(f[:1:1], api.File{Data: l})[:1])...) || !apart(places(f[:1:1])...) {
		t.Error("files that share their bytes")
	}
	b := roomy("x")
	before := withRoom(b)
	b[:2][1]++
	if string(b) != "x" || withRoom(b) == before {
		t.Errorf("what changes in the room is not seen: %s", withRoom(b))
	}
}

// DOC.md's R2: what is appended stays as it was, with its room, and is not kept: it may be overwritten then.
func TestAppendKeepsNothing(t *testing.T) {
	for _, s := range []string{"", "x", "some bytes", strings.Repeat("long", 2000)} {
		for _, before := range []string{"", "b", strings.Repeat("before", 100)} {
			d := made(t, 20000)
			b, first := roomy(s), roomy(before)
			want := []string{withRoom(b), withRoom(first)}
			wantOk(t, d.Append("a", first), d.Append("a", b), d.Append("b", b), d.Sync("b"))
			wantErrno(t, "Append", d.Append("A", b), api.ErrArg)
			if withRoom(b) != want[0] || withRoom(first) != want[1] {
				t.Fatalf("what was handed in is %s, %s", withRoom(b), withRoom(first))
			}
			scribble(b)
			scribble(first)
			wantFiles(t, d, file("a", before+s, 0), file("b", s, len(s)))
			d.Arm(0, 3)
			b = roomy("fall")
			wantErrno(t, "Append", d.Append("c", b), api.ErrDown)
			scribble(b)
			wantFiles(t, d, file("a", (before + s)[:min(3, len(before+s))], min(3, len(before+s))), file("b", s, len(s)), file("c", "fal", 3))
		}
	}
}

// DOC.md's R2: what is loaded stays as it was, with its room, and is not kept; nor does the disk write there.
func TestLoadKeepsNothing(t *testing.T) {
	again := func() []api.File {
		l := inBusy()
		for i, f := range l {
			l[i].Data = roomy(string(f.Data))
		}
		return append(l, file("mark", "mark", 77))[:len(l)]
	}
	text := func(l []api.File) string {
		s := told(l[:cap(l)])
		for _, f := range l {
			s += withRoom(f.Data)
		}
		return s
	}
	l := again()
	before := text(l)
	d := loaded(t, roomOfBusy, l...)
	other := loaded(t, roomOfBusy, l...)
	wantNoLoad(t, api.ErrDiskFull, 3, l...)
	wantNoLoad(t, api.ErrArg, 300, append(l[:1:1], l...)...)
	for _, f := range inBusy() {
		wantOk(t, d.Append(f.Name, []byte("x")), d.Sync(f.Name))
	}
	d.Crash(0)
	if after := text(l); after != before {
		t.Errorf("%s, before: %s", after, before)
	}
	for _, f := range l {
		scribble(f.Data)
	}
	l[0].Name, l[1].Safe = "scribbled", 0
	wantFiles(t, other, inBusy()...)
	if probed(other) != probed(busy(t)) {
		t.Error("what was loaded is kept")
	}
}

// DOC.md's R2: lists that are one in what is loaded are several in the disk.
func TestLoadOfSharedBytes(t *testing.T) {
	b := []byte("12345")
	d := loaded(t, 50, api.File{Name: "a", Data: b[:3]}, api.File{Name: "b", Data: b, Safe: 5}, api.File{Name: "c", Data: b[3:]})
	wantOk(t, d.Append("a", []byte("xyz")), d.Append("b", b), d.Append("c", b[:1]))
	wantFiles(t, d, file("a", "123xyz", 0), file("b", "1234512345", 5), file("c", "451", 0))
	if string(b) != "12345" {
		t.Errorf("%q", b)
	}
}

// DOC.md's R2: all that is told is new memory, with its room; whoever overwrites it changes nothing.
func TestWhatIsToldIsNew(t *testing.T) {
	grown := func() *disk.Disk {
		d := busy(t)
		d.Append("log", []byte("6"))
		d.Append("log", []byte("7"))
		d.Append("b", []byte("8"))
		return d
	}
	fallen := func() *disk.Disk { d := grown(); d.Crash(1); d.Start(); return d }
	for _, again := range []func() *disk.Disk{func() *disk.Disk { return busy(t) }, grown, fallen} {
		d := again()
		before := seen(d)
		var all []lies
		var keep []any // so that no memory is used again
		for range 4 {
			for _, f := range d.Files() {
				b, e := d.Read(f.Name)
				wantErrno(t, "Read", e, api.OK)
				all = append(all, place(b))
				scribble(b)
				keep = append(keep, b)
			}
			l := d.Files()
			all = append(all, places(l)...)
			for i, f := range l[:cap(l)] {
				scribble(f.Data)
				l[:cap(l)][i].Name, l[:cap(l)][i].Safe = "scribbled", 77
			}
			keep = append(keep, l)
		}
		if !apart(all...) {
			t.Error("answers share memory")
		}
		if after := seen(d); after != before {
			t.Errorf("%s, before: %s", after, before)
		}
		if probed(d) != probed(again()) {
			t.Error("something has changed")
		}
		runtime.KeepAlive(keep)
	}
}

// DOC.md's R2: what was told stays as it was, whatever is done to the disk then.
func TestWhatIsToldStays(t *testing.T) {
	d := busy(t)
	d.Append("log", []byte("6"))
	l := d.Files()
	b, _ := d.Read("log")
	before := told(l) + withRoom(b)
	wantOk(t, d.Append("log", []byte("78")), d.Sync("log"), d.Delete("a"), d.Rename("all.safe", "b"), d.Append("b", []byte("x")))
	d.Crash(0)
	d.Start()
	wantOk(t, d.Append("log", []byte("yz")))
	if after := told(l) + withRoom(b); after != before {
		t.Errorf("%s, before: %s", after, before)
	}
}

// DOC.md's R2: what is appended out of an answer, or of what another file has, is copied.
func TestAppendOfItself(t *testing.T) {
	d := busy(t)
	b, _ := d.Read("log")
	wantOk(t, d.Append("log", b))
	scribble(b)
	wantRead(t, d, "log", "1234512345")
}

// DOC.md's R2: a name whose bytes are overwritten behind the call changes nothing. (The language lets nobody do so but by such a way.)
func TestNamesAreNotKept(t *testing.T) {
	text := func(s string) ([]byte, string) { b := []byte(s); return b, unsafe.String(&b[0], len(b)) }
	made1, name1 := text("made")
	named, name2 := text("named")
	onto, name3 := text("onto")
	given, name4 := text("given")
	d := loaded(t, 50, api.File{Name: name4})
	wantOk(t, d.Append(name1, []byte("1")), d.Append("x", nil), d.Rename("x", name2), d.Append("onto", nil), d.Append("y", []byte("y")), d.Sync("y"), d.Rename("y", name3))
	for _, b := range [][]byte{made1, named, onto, given} {
		scribble(b)
	}
	wantFiles(t, d, file("given", "", 0), file("made", "1", 0), file("named", "", 0), file("onto", "y", 1))
	for _, name := range []string{"given", "made", "named", "onto"} {
		wantOk(t, d.Append(name, nil), d.Sync(name), d.Delete(name))
	}
	wantFiles(t, d)
}

// DOC.md's R3: lists and bytes of none are empty; nil and empty ones are the same.
func TestNothingIsEmpty(t *testing.T) {
	d := made(t, 5)
	if l := d.Files(); len(l) != 0 {
		t.Errorf("Files: %s", told(l))
	}
	wantOk(t, d.Append("a", nil), d.Append("b", []byte{}))
	wantRead(t, d, "a", "")
	wantRead(t, d, "b", "")
	wantFiles(t, loaded(t, 0, api.File{Name: "a"}, api.File{Name: "b", Data: []byte{}}), d.Files()...)
	wantFiles(t, loaded(t, 0, []api.File{}...))
}

// inUse is how many bytes are in use.
func inUse() uint64 {
	var m runtime.MemStats
	runtime.GC()
	runtime.ReadMemStats(&m)
	return m.HeapAlloc
}

// wantInUse wants hardly more bytes in use than before.
func wantInUse(t *testing.T, what string, before uint64) {
	t.Helper()
	if after := inUse(); after > before+1<<19 {
		t.Errorf("%s: %d bytes are in use, before: %d", what, after, before)
	}
}

// LANGUAGE.md's rule 8: what has gone, what was refused and what was told is not kept.
func TestGoneIsNotKept(t *testing.T) {
	great := make([]byte, maxDisk)
	for _, c := range []struct {
		what string
		do   func(d *disk.Disk)
	}{
		{"deleted", func(d *disk.Disk) { wantOk(t, d.Append("a", great), d.Delete("a")) }},
		{"another was laid onto it", func(d *disk.Disk) { wantOk(t, d.Append("a", great), d.Append("b", nil), d.Rename("b", "a")) }},
		{"fallen", func(d *disk.Disk) { wantOk(t, d.Append("a", great)); d.Crash(5) }},
		{"fallen to nothing", func(d *disk.Disk) { wantOk(t, d.Append("a", great)); d.Crash(0) }},
		{"fallen in the act", func(d *disk.Disk) { d.Arm(0, 0); wantErrno(t, "Append", d.Append("a", great), api.ErrDown) }},
		{"refused", func(d *disk.Disk) {
			wantOk(t, d.Append("a", great[:1]))
			wantErrno(t, "Append", d.Append("a", great), api.ErrDiskFull)
		}},
		{"told", func(d *disk.Disk) {
			wantOk(t, d.Append("a", great))
			d.Files()
			d.Read("a")
			d.Delete("a")
		}},
	} {
		d := made(t, maxDisk)
		before := inUse()
		c.do(d)
		wantInUse(t, c.what, before)
		runtime.KeepAlive(d)
	}
	runtime.KeepAlive(great)
}

// LANGUAGE.md's rule 8: of a long text in which a name stands no more is kept than that.
func TestNoMoreIsKept(t *testing.T) {
	before := inUse()
	long := func(s string) string { return (s + strings.Repeat("x", 1<<22))[:len(s)] }
	d := loaded(t, 50, api.File{Name: long("given")})
	wantOk(t, d.Append(long("made"), nil), d.Rename(long("made"), long("named")), d.Append(long("onto"), nil), d.Rename(long("named"), long("onto")), d.Sync(long("given")))
	wantRead(t, d, long("onto"), "")
	wantNoRead(t, d, long("B"), api.ErrArg)
	wantInUse(t, "names", before)
	wantFiles(t, d, file("given", "", 0), file("onto", "", 0))
	runtime.KeepAlive(d)
}

// LANGUAGE.md's rule 8: of bytes that are a piece of many more no more is kept than these.
func TestRoomIsNotKept(t *testing.T) {
	before := inUse()
	d := ofPieces(t)
	wantInUse(t, "pieces", before)
	wantFiles(t, d, file("a", "##########", 5), file("b", "", 0), file("c", "##########", 0), file("d", "", 0))
}

// ofPieces is a disk whose files came out of a great many bytes, which nobody has any more.
func ofPieces(t *testing.T) *disk.Disk {
	great := make([]byte, maxDisk)
	scribble(great)
	d := loaded(t, maxDisk, api.File{Name: "a", Data: great[:10], Safe: 5}, api.File{Name: "b", Data: great[:0]})
	wantOk(t, d.Append("c", great[:10]), d.Append("d", great[:0]))
	return d
}

// DOC.md's R1: every call ends, in little time, however long the names are, however many appends and files there are.
func TestGreat(t *testing.T) {
	began := time.Now()
	long := strings.Repeat("a", 1<<24)
	d := busy(t)
	for _, call := range []func(d calls) api.Errno{appending(long, 1), syncing(long), renaming(long, "b"), renaming("a", long), deleting(long), reading(long)} {
		wantErrno(t, "a long name", call(d), api.ErrArg)
	}
	many := made(t, maxDisk)
	for i := range 1 << 18 {
		wantOk(t, many.Append("log", bytes.Repeat([]byte{byte(i)}, 64)))
	}
	wantErrno(t, "Append", many.Append("log", []byte{0}), api.ErrDiskFull)
	files := made(t, maxDisk)
	for i := range 1 << 16 {
		name := strings.Map(func(r rune) rune { return r - '0' + 'a' }, fmt.Sprint(i))
		wantOk(t, files.Append(name, []byte{1}), files.Sync(name))
	}
	if n := len(files.Files()); n != 1<<16 {
		t.Errorf("%d files", n)
	}
	if took := time.Since(began); took > 20*time.Second {
		t.Errorf("%v", took)
	}
}
