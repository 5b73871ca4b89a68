package journal_test

import (
	"encoding/binary"
	"fmt"
	"hash/crc32"
	"strings"
	"testing"

	"longshore/api"
	"longshore/disk"
	"longshore/journal"
)

// The limits and the places of a batch are said anew, not asked of the program.
const (
	maxDisk   = 16777216
	maxRecord = 1049600
	headBytes = 8
	sumBytes  = 4
)

// calls are what a journal can be asked.
type calls interface {
	Add(records ...[]byte) api.Errno
	Shorten(batches [][][]byte) api.Errno
	Size() int
}

var _ calls = (*journal.Journal)(nil)

// number is four bytes, as the library writes them.
func number(n int) string { return string(binary.BigEndian.AppendUint32(nil, uint32(n))) }

// sum is the check sum, as the library reckons it.
func sum(s string) string { return number(int(crc32.ChecksumIEEE([]byte(s)))) }

// head is a right head that says a number.
func head(n int) string { return number(n) + sum(number(n)) }

// framed is any bytes with a right head and a right sum.
func framed(body string) string { return head(len(body)) + body + sum(head(len(body))+body) }

// body is the bytes of records, or of what is none.
func body(records ...string) string {
	s := ""
	for _, r := range records {
		s += number(len(r)) + r
	}
	return s
}

// batch is the bytes of a batch.
func batch(records ...string) string { return framed(body(records...)) }

// log is the bytes of several: each text is a batch, its words are the records.
func log(batches ...string) string {
	s := ""
	for _, b := range batches {
		if words := strings.Fields(b); len(words) > 0 {
			s += batch(words...)
		}
	}
	return s
}

// records are texts as bytes.
func records(words ...string) [][]byte {
	var l [][]byte
	for _, w := range words {
		l = append(l, []byte(w))
	}
	return l
}

// list is batches: each text is one, its words are the records.
func list(batches ...string) [][][]byte {
	var l [][][]byte
	for _, b := range batches {
		l = append(l, records(strings.Fields(b)...))
	}
	return l
}

// told is batches as text; an empty list and none are the same there.
func told(l [][][]byte) string {
	var s []string
	for _, b := range l {
		var r []string
		for _, x := range b {
			r = append(r, brief(string(x)))
		}
		s = append(s, "("+strings.Join(r, " ")+")")
	}
	return strings.Join(s, " ")
}

// brief is a text, or what tells a long one from others.
func brief(s string) string {
	if len(s) > 300 {
		return fmt.Sprintf("%q.. (%d bytes, %08x)", s[:20], len(s), crc32.ChecksumIEEE([]byte(s)))
	}
	return fmt.Sprintf("%q", s)
}

func file(name, data string, safe int) api.File {
	return api.File{Name: name, Data: []byte(data), Safe: safe}
}

// safeFile is one that is all safe.
func safeFile(name, data string) api.File { return file(name, data, len(data)) }

// toldFiles is files as text.
func toldFiles(l []api.File) string {
	var s []string
	for _, f := range l {
		s = append(s, fmt.Sprintf("%s:%s/%d", f.Name, brief(string(f.Data)), f.Safe))
	}
	return strings.Join(s, " ")
}

// seen is what can be seen of a disk.
func seen(d *disk.Disk) string { return fmt.Sprint(d.Up(), " ", toldFiles(d.Files())) }

// probed is what can be seen of a disk, and how many acts are still done on it, and with which keep it falls then.
func probed(d *disk.Disk) string {
	s := seen(d)
	for n := range 20 {
		if d.Append("probe", []byte("abc")) != api.OK {
			return s + fmt.Sprint(" ", n, " ", seen(d))
		}
	}
	return s + " never"
}

func loaded(t *testing.T, room int, files ...api.File) *disk.Disk {
	t.Helper()
	d, e := disk.Load(files, room)
	if d == nil || e != api.OK {
		t.Fatalf("Load(%s, %d): %d", toldFiles(files), room, e)
	}
	return d
}

// copied is another disk with the same files, up and not armed.
func copied(t *testing.T, d *disk.Disk) *disk.Disk {
	t.Helper()
	return loaded(t, maxDisk, d.Files()...)
}

func wantErrno(t *testing.T, what string, got, want api.Errno) {
	t.Helper()
	if got != want {
		t.Fatalf("%s: %d, want %d", what, got, want)
	}
}

func wantOk(t *testing.T, got ...api.Errno) {
	t.Helper()
	for i, e := range got {
		if e != api.OK {
			t.Fatalf("call %d: %d, want OK", i, e)
		}
	}
}

// wantOpen wants a journal, with these batches.
func wantOpen(t *testing.T, d *disk.Disk, want ...string) *journal.Journal {
	t.Helper()
	j, l, e := journal.Open(d)
	if j == nil || e != api.OK || told(l) != told(list(want...)) {
		t.Fatalf("Open: %v %s, %d, want %s", j != nil, told(l), e, told(list(want...)))
	}
	return j
}

// wantNoOpen wants an error and nothing beside it.
func wantNoOpen(t *testing.T, d *disk.Disk, want api.Errno) {
	t.Helper()
	if j, l, e := journal.Open(d); j != nil || len(l) != 0 || e != want {
		t.Fatalf("Open: %v %s, %d, want %d", j != nil, told(l), e, want)
	}
}

// wantLog wants a disk with the log of these batches, all safe, and with these other files.
func wantLog(t *testing.T, d *disk.Disk, batches []string, others ...api.File) {
	t.Helper()
	wantFiles(t, d, append([]api.File{safeFile("log", log(batches...))}, others...)...)
}

func wantFiles(t *testing.T, d *disk.Disk, want ...api.File) {
	t.Helper()
	if got := toldFiles(d.Files()); got != toldFiles(want) {
		t.Fatalf("Files: %s, want %s", got, toldFiles(want))
	}
}

// wantBatches wants that a copy of the disk has these batches.
func wantBatches(t *testing.T, d *disk.Disk, want ...string) {
	t.Helper()
	wantOpen(t, copied(t, d), want...)
}

func wantSize(t *testing.T, j calls, want int) {
	t.Helper()
	if got := j.Size(); got != want {
		t.Fatalf("Size: %d, want %d", got, want)
	}
}

func wantScan(t *testing.T, data string, safe, end int, want ...string) {
	t.Helper()
	l, at, e := journal.Scan([]byte(data), safe)
	if told(l) != told(list(want...)) || at != end || e != api.OK {
		t.Fatalf("Scan(%s, %d): %s, %d, %d, want %s, %d", brief(data), safe, told(l), at, e, told(list(want...)), end)
	}
}

func wantTorn(t *testing.T, data string, safe, end int) {
	t.Helper()
	if l, at, e := journal.Scan([]byte(data), safe); len(l) != 0 || at != end || e != api.ErrTorn {
		t.Fatalf("Scan(%s, %d): %s, %d, %d, want ErrTorn at %d", brief(data), safe, told(l), at, e, end)
	}
}

func wantNoScan(t *testing.T, data string, safe int) {
	t.Helper()
	if l, at, e := journal.Scan([]byte(data), safe); len(l) != 0 || at != 0 || e != api.ErrArg {
		t.Fatalf("Scan(%s, %d): %s, %d, %d, want ErrArg", brief(data), safe, told(l), at, e)
	}
}

// keeps are how much of a tail may stay, at the edges of a batch of some 20 bytes.
func keeps() []int {
	return []int{-1 << 62, -1, 0, 1, 3, 4, 5, 7, 8, 9, 12, 13, 16, 17, 18, 21, 22, 23, 30, 34, 1 << 62}
}

// The helpers above see what they are to see.
func TestProbesSee(t *testing.T) {
	again := func() *disk.Disk { return loaded(t, 100, file("log", "12345", 3), file("x", "", 0)) }
	met := map[string]int{}
	changes := []func(d *disk.Disk){
		func(d *disk.Disk) {},
		func(d *disk.Disk) { d.Sync("log") },
		func(d *disk.Disk) { d.Append("x", []byte("y")) },
		func(d *disk.Disk) { d.Delete("x") },
		func(d *disk.Disk) { d.Arm(0, 0) },
		func(d *disk.Disk) { d.Arm(0, 1) },
		func(d *disk.Disk) { d.Arm(1, 0) },
		func(d *disk.Disk) { d.Arm(1, 0); d.Sync("x") }, // armed with one act less
		func(d *disk.Disk) { d.Crash(0) },
		func(d *disk.Disk) { d.Crash(2) },
	}
	for i, change := range changes {
		d := again()
		change(d)
		if s := probed(d); met[s] > 0 && i != 7 {
			t.Errorf("change %d is not seen: %s", i, s)
		} else {
			met[s]++
		}
	}
	if len(met) != len(changes)-1 {
		t.Errorf("%v", met)
	}
	if told(list("a", "b")) == told(list("a b")) || told(list("a")) == told(list("a", "")) || told(nil) != told(list()) {
		t.Error("batches are not told apart")
	}
	if log("a") != "\x00\x00\x00\x05\x51\x2e\x2b\x93\x00\x00\x00\x01a\x15\x6e\xc1\x93" {
		t.Errorf("%q", log("a"))
	}
}
