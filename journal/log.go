package journal

import (
	"errors"
	"iter"

	"longshore/api"
	"longshore/octet"
)

const (
	width      = 4 // bytes of a number
	headSize   = 2 * width
	leastBody  = width + 1
	mostRecord = 1049600
)

// batchesOf goes through a log's whole batches, each as its records in new memory. If bytes are left, the last that it tells is a fault: why they are no whole batch.
func batchesOf(log []byte) iter.Seq2[[][]byte, error] {
	return func(yield func([][]byte, error) bool) {
		for at := 0; at < len(log); {
			records, size, err := first(log[at:])
			if err != nil {
				yield(nil, &fault{at: at, why: err})
				return
			}
			if !yield(records, nil) {
				return
			}
			at += size
		}
	}
}

// first is the whole batch that bytes begin with: its records, how many bytes it has.
func first(b []byte) ([][]byte, int, error) {
	body, err := bodySize(b)
	if err != nil {
		return nil, 0, err
	}
	behind := headSize + body
	if len(b) < behind+width {
		return nil, 0, errBegun
	}
	if !sumStands(b, behind) {
		return nil, 0, number(api.ErrTorn)
	}
	records, err := split(b[headSize:behind])
	return records, behind + width, err
}

// bodySize is what a right head says.
func bodySize(b []byte) (int, error) {
	if len(b) < headSize {
		return 0, errBegun
	}
	size, _ := octet.Get(b, 0, width)
	if size < leastBody || !sumStands(b, width) {
		return 0, number(api.ErrTorn)
	}
	return int(size), nil
}

// sumStands tells whether the sum of all that is ahead of a place stands there.
func sumStands(b []byte, at int) bool {
	sum, e := octet.Get(b, at, width)
	return e == api.OK && sum == uint64(octet.Sum(b[:at]))
}

// split is a body's records.
func split(body []byte) ([][]byte, error) {
	var records [][]byte
	for len(body) > 0 {
		size, e := octet.Get(body, 0, width)
		if e != api.OK || size < 1 || size > mostRecord || size > uint64(len(body)-width) {
			return nil, number(api.ErrTorn)
		}
		behind := width + int(size)
		records = append(records, append([]byte(nil), body[width:behind]...))
		body = body[behind:]
	}
	return records, nil
}

// whole is a log's whole batches, the place behind them, and what is amiss from there on.
func whole(log []byte) ([][][]byte, int, error) {
	var all [][][]byte
	for records, err := range batchesOf(log) {
		var f *fault
		if errors.As(err, &f) {
			return all, f.at, err
		}
		all = append(all, records)
	}
	return all, len(log), nil
}

// Scan reads a log's bytes: the batches, the place behind the last whole one.
func Scan(data []byte, safe int) ([][][]byte, int, api.Errno) {
	if safe < 0 || safe > len(data) {
		return nil, 0, api.ErrArg
	}
	all, end, err := whole(data)
	if end < safe && errors.Is(err, number(api.ErrTorn)) {
		return nil, end, api.ErrTorn
	}
	return all, end, api.OK
}

// isNone tells whether bytes are no record.
func isNone(b []byte) bool { return len(b) < 1 || len(b) > mostRecord }

// logOf is the bytes of batches, one behind the other.
func logOf(all ...[][]byte) ([]byte, error) {
	size := 0
	for _, records := range all {
		size += batchSize(records)
	}
	// No disk has room for more, and whoever hands in one record many times would have them all laid out for nothing.
	if size > api.MaxDisk {
		return nil, number(api.ErrDiskFull)
	}
	log := make([]byte, 0, size)
	for _, records := range all {
		log = appendBatch(log, records)
	}
	return log, nil
}

// batchSize is how many bytes the batch of these records has; without records there is none.
func batchSize(records [][]byte) int {
	if len(records) == 0 {
		return 0
	}
	size := headSize + width
	for _, r := range records {
		size += width + len(r)
	}
	return size
}

func appendBatch(log []byte, records [][]byte) []byte {
	if len(records) == 0 {
		return log
	}
	begin := len(log)
	log = appendNumber(log, batchSize(records)-headSize-width)
	log = appendNumber(log, int(octet.Sum(log[begin:])))
	for _, r := range records {
		log = append(appendNumber(log, len(r)), r...)
	}
	return appendNumber(log, int(octet.Sum(log[begin:])))
}

func appendNumber(log []byte, n int) []byte {
	return append(log, octet.Put(uint64(n), width)...)
}
