package journal_test

import (
	"bytes"
	"cmp"
	"fmt"
	"reflect"
	"runtime"
	"slices"
	"strings"
	"sync"
	"testing"
	"time"

	"longshore/api"
	"longshore/disk"
	"longshore/journal"
)

// lies is where a list lies, up to the end of its room.
type lies struct{ first, behind uintptr }

func place[T any](l []T) lies {
	v := reflect.ValueOf(l)
	return lies{v.Pointer(), v.Pointer() + uintptr(cap(l))*reflect.TypeFor[T]().Size()}
}

// places are where batches lie: the list, each batch and each record, of those that stand in the room too.
func places(l [][][]byte) []lies {
	all := []lies{place(l)}
	for _, b := range l[:cap(l)] {
		all = append(all, place(b))
		for _, r := range b[:cap(b)] {
			all = append(all, place(r))
		}
	}
	return all
}

// apart tells whether no two lists share memory.
func apart(all ...lies) bool {
	all = slices.DeleteFunc(all, func(l lies) bool { return l.first == l.behind })
	slices.SortFunc(all, func(a, b lies) int { return cmp.Compare(a.first, b.first) })
	for i := 1; i < len(all); i++ {
		if all[i].first < all[i-1].behind {
			return false
		}
	}
	return true
}

// scribble overwrites bytes, with their room.
func scribble(b []byte) {
	b = b[:cap(b)]
	for i := range b {
		b[i] = '#'
	}
}

// scribbleAll overwrites batches, with their room.
func scribbleAll(l [][][]byte) {
	l = l[:cap(l)]
	for i, b := range l {
		b = b[:cap(b)]
		for k, r := range b {
			scribble(r)
			b[k] = []byte("scribbled")
		}
		l[i] = records("scribbled", "twice")
	}
}

// roomy is bytes with room to spare in which a mark stands.
func roomy(s string) []byte { return []byte(s + "mark")[:len(s)] }

// roomyList is batches with room to spare, each and all.
func roomyList(batches ...string) [][][]byte {
	var l [][][]byte
	for _, b := range batches {
		var rs [][]byte
		for _, w := range strings.Fields(b) {
			rs = append(rs, roomy(w))
		}
		rs = append(rs, []byte("mark"))
		l = append(l, rs[:len(rs)-1])
	}
	l = append(l, records("mark"))
	return l[:len(l)-1]
}

// withRoom is batches as text, with what stands in the room behind them.
func withRoom(l [][][]byte) string {
	s := ""
	for _, b := range l[:cap(l)] {
		s += "("
		for _, r := range b[:cap(b)] {
			s += fmt.Sprintf("%q/%d ", r[:cap(r)], len(r))
		}
		s += fmt.Sprint(")", len(b))
	}
	return s + fmt.Sprint(len(l))
}

// The helpers above see what they are to see.
func TestRoomIsSeen(t *testing.T) {
	l := roomyList("a b", "c")
	if !apart(places(l)...) || apart(append(places(l), place(l[0][1][:0]))...) || apart(append(places(l), place(l[1:]))...) {
		t.Error("places")
	}
	shared := []byte("12345")
	if apart(places([][][]byte{{shared[:2]}, {shared[2:]}})...) || !apart(places([][][]byte{{shared[:2:2]}, {shared[2:]}})...) {
		t.Error("records that share their room")
	}
	before := withRoom(l)
	for _, change := range []func(){
		func() { l[0][0][:2][1]++ }, func() { l[0][:3][2][0]++ }, func() { l[:3][2][0][0]++ }, func() { l[1][0][0]++ }, func() { l[0] = l[0][:1] },
	} {
		change()
		if after := withRoom(l); after == before {
			t.Errorf("a change is not seen: %s", after)
		} else {
			before = after
		}
	}
}

// P20.8: what is handed to Scan stays as it was, with its room; what it answers is new memory, apart from that and in itself.
func TestScanIsNew(t *testing.T) {
	for _, s := range []string{"", "x", log("a"), log("a", "b c", "ddddddddd") + "tail", log("a") + framed("")} {
		for _, safe := range []int{0, len(s) / 2, len(s)} {
			data := roomy(s)
			whole := string(data[:cap(data)])
			all := []lies{place(data)}
			var keep []any // so that no memory is used again
			var first string
			for range 3 {
				l, _, e := journal.Scan(data, safe)
				if got := told(l) + fmt.Sprint(e); first == "" {
					first = got
				} else if got != first {
					t.Fatalf("%s, first: %s", got, first)
				}
				all = append(all, places(l)...)
				scribbleAll(l)
				keep = append(keep, l)
			}
			if string(data[:cap(data)]) != whole {
				t.Errorf("what was handed in is %q", data[:cap(data)])
			}
			if !apart(all...) {
				t.Errorf("answers of %q share memory", s)
			}
			runtime.KeepAlive(keep)
		}
	}
}

// P20.8: what Scan answered stays as it was when the bytes are overwritten.
func TestScanKeepsNothing(t *testing.T) {
	data := []byte(log("a", "b c"))
	l, _, _ := journal.Scan(data, len(data))
	scribble(data)
	if told(l) != told(list("a", "b c")) {
		t.Error(told(l))
	}
}

// P20.8: what Open answers is new memory: whoever overwrites it changes neither the disk nor the journal, nor what another Open answers.
func TestOpenIsNew(t *testing.T) {
	for _, s := range []string{log("a", "b c"), log("a", "b c") + "tail"} {
		for _, room := range []int{len(s), 1000} {
			d := loaded(t, room, file("log", s, len(s)-1))
			var all []lies
			var keep []any
			for range 3 {
				j, l, e := journal.Open(d)
				wantErrno(t, "Open", e, api.OK)
				if told(l) != told(list("a", "b c")) {
					t.Fatal(told(l))
				}
				all = append(all, places(l)...)
				scribbleAll(l)
				wantSize(t, j, 39)
				keep = append(keep, l, j)
			}
			if !apart(all...) {
				t.Error("answers share memory")
			}
			runtime.KeepAlive(keep)
		}
	}
}

// P20.8: what Open answered stays as it was, whatever is done then.
func TestOpenStays(t *testing.T) {
	d := loaded(t, 1000, file("log", log("a", "b c")+"tail", 20))
	j, l, e := journal.Open(d)
	wantErrno(t, "Open", e, api.OK)
	before := withRoom(l)
	wantOk(t, j.Add([]byte("d")), j.Shorten(list("e")), j.Add([]byte("f")))
	d.Crash(0)
	if withRoom(l) != before {
		t.Errorf("%s, before: %s", withRoom(l), before)
	}
}

// P20.8: what is handed to Add and Shorten stays as it was, with its room, whatever is answered, and may be overwritten then.
func TestNothingIsKept(t *testing.T) {
	for _, room := range []int{200, 50, 40} {
		for n := -1; n < 4; n++ {
			d := loaded(t, room, safeFile("log", log("a")))
			j := wantOpen(t, d, "a")
			d.Arm(n, 9)
			added, short := roomyList("b cc ddd"), roomyList("e", "", "f g")
			before := withRoom(added) + withRoom(short)
			want := []string{"a"}
			e := j.Add(added[0]...)
			if e == api.OK {
				want = append(want, "b cc ddd")
			}
			scene := fmt.Sprint("room ", room, " acts ", n)
			e2 := j.Shorten(short)
			if e2 == api.OK {
				want = []string{"e", "f g"}
			}
			if after := withRoom(added) + withRoom(short); after != before {
				t.Fatalf("%s: %s, before: %s", scene, after, before)
			}
			scribbleAll(added)
			scribbleAll(short)
			if e != api.ErrDown && e2 != api.ErrDown {
				wantBatches(t, d, want...)
				d.Arm(-1, 0)
				if j.Shorten(nil) == api.OK {
					wantOk(t, j.Add([]byte("h")))
					wantBatches(t, d, "h")
				}
			}
		}
	}
}

// P20.8: with errors, too, what is handed in stays as it was.
func TestRefusedStays(t *testing.T) {
	d := disk.New(100)
	j := wantOpen(t, d)
	l := roomyList("a b", "", "c")
	l[2] = append(l[2], nil)
	before := withRoom(l)
	wantErrno(t, "Shorten", j.Shorten(l), api.ErrRecord)
	wantErrno(t, "Add", j.Add(l[2]...), api.ErrRecord)
	d.Crash(0)
	wantErrno(t, "Shorten", j.Shorten(l), api.ErrDown)
	wantErrno(t, "Add", j.Add(l[0]...), api.ErrDown)
	if withRoom(l) != before {
		t.Errorf("%s, before: %s", withRoom(l), before)
	}
}

// P20.8: lists that are one in what is handed in are several in the log; and what one Open answered may be handed to another journal.
func TestSharedRecords(t *testing.T) {
	b := []byte("12345")
	d := disk.New(1000)
	j := wantOpen(t, d)
	r := [][]byte{b[:3], b, b[3:], b[:3]}
	wantOk(t, j.Add(r...))
	wantBatches(t, d, "123 12345 45 123")
	wantOk(t, j.Shorten([][][]byte{r[:1], r[1:], r}))
	_, l, _ := journal.Open(d)
	other := disk.New(1000)
	k := wantOpen(t, other)
	wantOk(t, k.Shorten(l), k.Add(l[1]...))
	scribbleAll(l)
	wantBatches(t, other, "123", "12345 45 123", "123 12345 45 123", "12345 45 123")
	wantBatches(t, d, "123", "12345 45 123", "123 12345 45 123")
	if string(b) != "12345" {
		t.Errorf("%q", b)
	}
}

// DOC.md's R3: nil and an empty list are the same, in and out.
func TestNothingIsEmpty(t *testing.T) {
	d := disk.New(100)
	j := wantOpen(t, d)
	wantOk(t, j.Add([][]byte{}...), j.Add([][]byte(nil)...))
	wantFiles(t, d)
	wantErrno(t, "Add", j.Add([]byte{}), api.ErrRecord)
	wantErrno(t, "Add", j.Add([]byte(nil)), api.ErrRecord)
	for _, l := range [][][][]byte{nil, {}, {nil}, {{}}, {nil, {}}} {
		wantOk(t, j.Shorten(l))
		wantFiles(t, d, file("log", "", 0))
		wantSize(t, j, 0)
	}
	for _, data := range [][]byte{nil, {}} {
		if l, end, e := journal.Scan(data, 0); len(l) != 0 || end != 0 || e != api.OK {
			t.Errorf("%s, %d, %d", told(l), end, e)
		}
	}
}

// inUse is how many bytes are in use.
func inUse() uint64 {
	var m runtime.MemStats
	runtime.GC()
	runtime.GC()
	runtime.ReadMemStats(&m)
	return m.HeapAlloc
}

// wantInUse wants hardly more bytes in use than before.
func wantInUse(t *testing.T, what string, before uint64) {
	t.Helper()
	if after := inUse(); after > before+1<<19 {
		t.Errorf("%s: %d bytes are in use, before: %d", what, after, before)
	}
}

// LANGUAGE.md's rule 8: a journal keeps nothing of its log, nor of what it was handed.
func TestNoMoreIsKept(t *testing.T) {
	d := disk.New(maxDisk)
	before := inUse()
	j := wantOpen(t, d)
	great := aRecord(maxRecord)
	for range 5 {
		wantOk(t, j.Add(great, great))
	}
	wantErrno(t, "Shorten", j.Shorten([][][]byte{{great, great, great, great, great, great, great}}), api.ErrDiskFull)
	opened := inUse()
	k, _, e := journal.Open(d)
	wantErrno(t, "Open", e, api.OK)
	wantInUse(t, "opened", opened)
	wantOk(t, k.Shorten(nil))
	great = nil
	wantInUse(t, "made short", before)
	runtime.KeepAlive(j)
	runtime.KeepAlive(k)
	runtime.KeepAlive(d)
}

// LANGUAGE.md's rule 8: a record that is answered keeps no more than itself; the rest of the log is not kept with it.
func TestRecordKeepsNoLog(t *testing.T) {
	before := inUse()
	d := disk.New(maxDisk)
	j := wantOpen(t, d)
	wantOk(t, j.Add([]byte("a"), aRecord(maxRecord), []byte("b")), j.Add(aRecord(maxRecord)))
	_, l, _ := journal.Open(d)
	kept := [][]byte{l[0][0], l[0][2]}
	l, d, j = nil, nil, nil
	wantInUse(t, "records", before)
	runtime.KeepAlive(kept)
}

// LANGUAGE.md's rule 8: a journal that is down has no use for its disk.
func TestDownKeepsNoDisk(t *testing.T) {
	before := inUse()
	d := disk.New(maxDisk)
	j := wantOpen(t, d)
	wantOk(t, j.Add(aRecord(maxRecord)), d.Append("x", make([]byte, 1<<22)))
	d.Crash(1 << 62)
	wantErrno(t, "Add", j.Add(), api.ErrDown)
	d = nil
	wantInUse(t, "down", before)
	wantSize(t, j, 16+maxRecord)
}

// DOC.md's R1: every call ends, in little time: an Add does not go through the log, and nothing is laid out that no disk has room for.
func TestGreat(t *testing.T) {
	began := time.Now()
	d := loaded(t, maxDisk, safeFile("log", "tail"))
	j := wantOpen(t, d)
	for n := range maxDisk / 17 {
		if e := j.Add([]byte{byte(n)}); e != api.OK {
			t.Fatalf("Add %d: %d", n, e)
		}
	}
	wantErrno(t, "Add", j.Add([]byte("x")), api.ErrDiskFull)
	wantSize(t, j, maxDisk/17*17)
	_, l, e := journal.Open(d)
	if len(l) != maxDisk/17 || e != api.OK {
		t.Errorf("%d batches, %d", len(l), e)
	}
	wantErrno(t, "Shorten", j.Shorten(l), api.ErrDiskFull)
	wantOk(t, j.Shorten(nil), j.Shorten(l[:len(l)/2]))

	many := make([][]byte, 1<<20)
	for i := range many {
		many[i] = tooLong[:maxRecord]
	}
	wantErrno(t, "Add of a tebibyte", j.Add(many...), api.ErrDiskFull)
	wantErrno(t, "Shorten to two of it", j.Shorten([][][]byte{many, nil, many}), api.ErrDiskFull)
	wantSize(t, j, maxDisk/17/2*17)

	// Batches without records have no bytes, however many they are.
	wantOk(t, j.Shorten(make([][][]byte, 1<<21)))
	wantFiles(t, d, file("log", "", 0))

	// A list of many records, each of one byte, is one batch.
	wantOk(t, j.Shorten(nil), j.Add(slices.Repeat(records("r"), (maxDisk-12)/5)...))
	_, l, e = journal.Open(d)
	if len(l) != 1 || len(l[0]) != (maxDisk-12)/5 || e != api.OK {
		t.Errorf("%d batches, %d", len(l), e)
	}
	if took := time.Since(began); took > 60*time.Second {
		t.Errorf("%v", took)
	}
}

// DOC.md's R1: a batch that fills the greatest disk is taken, and one of a byte more is not.
func TestFullDisk(t *testing.T) {
	for _, more := range []int{0, 1} {
		d := disk.New(maxDisk)
		j := wantOpen(t, d)
		var rs [][]byte
		left := maxDisk - 12 + more
		for left > 0 {
			n := min(left-4, maxRecord)
			if left-4-n > 0 && left-4-n < 5 {
				n -= 5
			}
			rs = append(rs, aRecord(n))
			left -= 4 + n
		}
		want := []api.Errno{api.OK, api.ErrDiskFull}[more]
		wantErrno(t, "Shorten", j.Shorten([][][]byte{rs}), want)
		wantErrno(t, "Shorten to none", j.Shorten(nil), api.OK)
		wantErrno(t, "Add", j.Add(rs...), want)
		if want == api.OK {
			wantSize(t, j, maxDisk)
			f := d.Files()[0]
			if !bytes.Equal(f.Data, []byte(bytesOf(rs))) || f.Safe != maxDisk {
				t.Error("the log is another one")
			}
		}
	}
}

// P20.8: journals of different disks may be used by different goroutines: they have nothing in common.
func TestManyAtOnce(t *testing.T) {
	var wait sync.WaitGroup
	for n := range 8 {
		wait.Go(func() {
			d := disk.New(2000)
			j, _, _ := journal.Open(d)
			var want []string
			for i := range 40 {
				want = append(want, fmt.Sprint(n, ".", i))
				if e := j.Add([]byte(want[i])); e != api.OK {
					t.Errorf("Add: %d", e)
				}
			}
			if _, l, e := journal.Open(d); e != api.OK || told(l) != told(list(want...)) {
				t.Errorf("%s, %d", told(l), e)
			}
		})
	}
	wait.Wait()
}
