package journal_test

import (
	"hash/crc32"
	"strings"

	"longshore/api"
	"longshore/disk"
)

// isBatch tells a whole batch's records, made another way: from its end on, of a text of just its length.
func isBatch(s string) ([]string, bool) {
	n := len(s) - headBytes - sumBytes
	if n < 1 || s[:headBytes] != head(n) || s[headBytes+n:] != number(int(crc32.ChecksumIEEE([]byte(s[:headBytes+n])))) {
		return nil, false
	}
	return isBody(s[headBytes : headBytes+n])
}

// isBody takes the records one by one, each by trying which length it says.
func isBody(s string) ([]string, bool) {
	for n := 1; n <= min(len(s)-4, maxRecord); n++ {
		if s[:4] != number(n) {
			continue
		}
		record, rest := s[4:4+n], s[4+n:]
		if rest == "" {
			return []string{record}, true
		}
		more, is := isBody(rest)
		return append([]string{record}, more...), is
	}
	return nil, false
}

// scanModel is Scan, by trying each length at each place.
func scanModel(s string, safe int) ([][][]byte, int, api.Errno) {
	if safe < 0 || safe > len(s) {
		return nil, 0, api.ErrArg
	}
	var all [][][]byte
	end := 0
	for n := 0; end+n <= len(s); n++ {
		if r, is := isBatch(s[end : end+n]); is {
			all = append(all, records(r...))
			end += n
			n = 0
		}
	}
	if end < safe && isNoBeginning(s[end:]) {
		return nil, end, api.ErrTorn
	}
	return all, end, api.OK
}

func isNoBeginning(s string) bool {
	if len(s) < headBytes {
		return false
	}
	n := int(s[0])<<24 | int(s[1])<<16 | int(s[2])<<8 | int(s[3])
	return s[:headBytes] != head(n) || n < 5 || len(s) >= headBytes+n+sumBytes
}

// act is one on a disk.
type act func(d *disk.Disk) api.Errno

func appending(name, s string) act {
	return func(d *disk.Disk) api.Errno { return d.Append(name, []byte(s)) }
}

func syncing(name string) act { return func(d *disk.Disk) api.Errno { return d.Sync(name) } }

func renaming(from, to string) act {
	return func(d *disk.Disk) api.Errno { return d.Rename(from, to) }
}

func deleting(name string) act { return func(d *disk.Disk) api.Errno { return d.Delete(name) } }

// do does acts until one is refused.
func do(d *disk.Disk, acts ...act) api.Errno {
	for _, a := range acts {
		if e := a(d); e != api.OK {
			return e
		}
	}
	return api.OK
}

// replacing are the acts that put these bytes in the place of the log.
func replacing(s string) []act {
	return []act{appending("log.new", s), syncing("log.new"), renaming("log.new", "log")}
}

// model is a journal made another way: it keeps nothing of its log, but asks the disk each time.
type model struct {
	d    *disk.Disk
	down bool
	size int
}

// named is a disk's file, if it is there.
func named(d *disk.Disk, name string) (api.File, bool) {
	for _, f := range d.Files() {
		if f.Name == name {
			return f, true
		}
	}
	return api.File{}, false
}

func openModel(d *disk.Disk) (*model, [][][]byte, api.Errno) {
	if d == nil {
		return nil, nil, api.ErrArg
	}
	if !d.Up() {
		return nil, nil, api.ErrDown
	}
	f, _ := named(d, "log")
	all, end, e := scanModel(string(f.Data), f.Safe)
	if e != api.OK {
		return nil, nil, e
	}
	m := &model{d: d, size: end}
	if m.clearNew() == api.ErrDown || m.cut() == api.ErrDown {
		return nil, nil, api.ErrDown
	}
	if f, is := named(d, "log"); is && f.Safe < len(f.Data) && d.Sync("log") == api.ErrDown {
		return nil, nil, api.ErrDown
	}
	return m, all, api.OK
}

// clearNew deletes what a fall of another journal has left.
func (m *model) clearNew() api.Errno {
	if _, is := named(m.d, "log.new"); is {
		return m.d.Delete("log.new")
	}
	return api.OK
}

// cut cuts the tail, if there is one.
func (m *model) cut() api.Errno {
	f, _ := named(m.d, "log")
	_, end, _ := scanModel(string(f.Data), 0)
	if end == len(f.Data) {
		return api.OK
	}
	if e := m.clearNew(); e != api.OK {
		return e
	}
	return do(m.d, replacing(string(f.Data[:end]))...)
}

func (m *model) refuses(batches [][][]byte) api.Errno {
	if m.down = m.down || !m.d.Up(); m.down {
		return api.ErrDown
	}
	for _, b := range batches {
		for _, r := range b {
			if len(r) == 0 || len(r) > maxRecord {
				return api.ErrRecord
			}
		}
	}
	return api.OK
}

func (m *model) Add(records ...[]byte) api.Errno {
	if e := m.refuses([][][]byte{records}); e != api.OK || len(records) == 0 {
		return e
	}
	s := bytesOf(records)
	e := m.cut()
	if e == api.OK {
		e = do(m.d, appending("log", s), syncing("log"))
	}
	if m.down = e == api.ErrDown; e == api.OK {
		m.size += len(s)
	}
	return e
}

func (m *model) Shorten(batches [][][]byte) api.Errno {
	if e := m.refuses(batches); e != api.OK {
		return e
	}
	s := bytesOf(batches...)
	e := m.clearNew()
	if e == api.OK {
		e = do(m.d, replacing(s)...)
	}
	if m.down = e == api.ErrDown; e == api.OK {
		m.size = len(s)
	}
	return e
}

func (m *model) Size() int { return m.size }

// bytesOf is the bytes of batches; of those without records there are none.
func bytesOf(batches ...[][]byte) string {
	var s strings.Builder
	for _, b := range batches {
		var words []string
		for _, r := range b {
			words = append(words, string(r))
		}
		if len(words) > 0 {
			s.WriteString(batch(words...))
		}
	}
	return s.String()
}
