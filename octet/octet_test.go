package octet_test

import (
	"bytes"
	"math"
	"slices"
	"testing"

	"longshore/api"
	"longshore/octet"
)

// The edges of an int: where a place or a width could run over.
var extremes = []int{math.MinInt, math.MinInt + 1, math.MinInt32, math.MaxInt32, math.MaxInt - 8, math.MaxInt - 1, math.MaxInt}

// numbers have a different byte at each place, or all alike, or only the ends set.
var numbers = []uint64{0, 1, 127, 128, 255, 256, 258, 65535, 65536, 1<<32 - 1, 1 << 32, 1<<63 - 1, 1 << 63, 1<<64 - 1, 0x0123456789abcdef, 0xfedcba9876543210, 0x8000000000000001}

// lowest is what Put must write, said in another way: by division.
func lowest(n uint64, width int) []byte {
	var b []byte
	for range width {
		b = slices.Insert(b, 0, byte(n%256))
		n /= 256
	}
	return b
}

func TestErrorNumbers(t *testing.T) {
	if api.OK != 0 || api.ErrArg != 1 || api.ErrShort != 10 {
		t.Errorf("OK %d, ErrArg %d, ErrShort %d: want 0, 1, 10", api.OK, api.ErrArg, api.ErrShort)
	}
}

// P1.1
func TestPutWritesLowestBytes(t *testing.T) {
	for _, n := range numbers {
		for width := 1; width <= 8; width++ {
			if got, want := octet.Put(n, width), lowest(n, width); !bytes.Equal(got, want) {
				t.Errorf("Put(%#x, %d): % x, want % x", n, width, got, want)
			}
		}
	}
}

// P1.1
func TestPutOfOtherWidths(t *testing.T) {
	for _, width := range append([]int{-9, -8, -1, 0, 9, 10, 64, 256 + 1}, extremes...) {
		for _, n := range numbers {
			if got := octet.Put(n, width); len(got) != 0 {
				t.Errorf("Put(%#x, %d): % x, want no bytes", n, width, got)
			}
		}
	}
}

// P1.2
func TestGetArguments(t *testing.T) {
	for _, b := range [][]byte{nil, {}, {1}, {1, 2, 3, 4, 5, 6, 7, 8, 9, 10}} {
		for _, width := range append([]int{-1, 0, 9, 10}, extremes...) {
			for _, at := range append([]int{-1, 0, 1, len(b), len(b) + 1}, extremes...) {
				wantGet(t, b, at, width, 0, api.ErrArg)
			}
		}
		for width := 1; width <= 8; width++ {
			for _, at := range append([]int{-1, -8, len(b) + 1, len(b) + 9}, extremes...) {
				wantGet(t, b, at, width, 0, api.ErrArg)
			}
			wantGet(t, b, len(b), width, 0, api.ErrShort)
		}
	}
}

// P1.2
func TestGetAtEachPlace(t *testing.T) {
	b := []byte{0xff, 0, 0x80, 1, 2, 0xfe, 0x7f, 0, 0, 9, 0xa5, 0x5a}
	for width := 1; width <= 8; width++ {
		for at := 0; at <= len(b); at++ {
			if len(b)-at < width {
				wantGet(t, b, at, width, 0, api.ErrShort)
				continue
			}
			want := uint64(0)
			for i := range width {
				want = want*256 + uint64(b[at+i])
			}
			wantGet(t, b, at, width, want, api.OK)
		}
	}
}

// P1.2: spare room behind the end is not among the bytes.
func TestGetStopsAtTheEnd(t *testing.T) {
	b := []byte{1, 2, 3, 4, 5, 6, 7, 8}
	wantGet(t, b[:3], 1, 3, 0, api.ErrShort)
	wantGet(t, b[:3], 3, 1, 0, api.ErrShort)
	wantGet(t, b[:3], 4, 1, 0, api.ErrArg)
}

// P1.1, P1.2
func TestGetOfPut(t *testing.T) {
	for _, fill := range []byte{0, 0xff, 0x5a} {
		for _, n := range numbers {
			for width := 1; width <= 8; width++ {
				for at := range 4 {
					b := bytes.Repeat([]byte{fill}, at)
					b = append(b, octet.Put(n, width)...)
					b = append(b, bytes.Repeat([]byte{fill}, 3)...)
					want := n
					if width < 8 {
						want = n % (1 << (8 * width))
					}
					wantGet(t, b, at, width, want, api.OK)
				}
			}
		}
	}
}

func wantGet(t *testing.T, b []byte, at, width int, want uint64, wantErr api.Errno) {
	t.Helper()
	if n, e := octet.Get(b, at, width); n != want || e != wantErr {
		t.Errorf("Get(% x, %d, %d): %d, %d, want %d, %d", b, at, width, n, e, want, wantErr)
	}
}

// P1.10
func TestArgumentsStay(t *testing.T) {
	room := []byte{1, 2, 3, 4, 5, 6, 7, 8, 9, 10}
	before := slices.Clone(room)
	octet.Get(room[:4], 1, 2)
	octet.Get(room[:4], 1, 8)
	octet.Sum(room[:2], room[3:5], nil, room[6:6])
	if !bytes.Equal(room, before) {
		t.Errorf("bytes that were handed in: % x, were % x", room, before)
	}
	parts := [][]byte{room[:2], nil, room[3:5], room[5:]}
	octet.Sum(parts[:2]...)
	if len(parts[0]) != 2 || parts[1] != nil || len(parts[2]) != 2 || len(parts[3]) != 5 {
		t.Error("the list of parts was changed")
	}
}

// P1.10
func TestAnswersShareNothing(t *testing.T) {
	for width := 1; width <= 8; width++ {
		first, second := octet.Put(1<<64-1, width), octet.Put(1<<64-1, width)
		clear(first[:cap(first)])
		if !bytes.Equal(second, lowest(1<<64-1, width)) {
			t.Errorf("Put of width %d: an answer changed with another one", width)
		}
		clear(second[:cap(second)])
		if third := octet.Put(1<<64-1, width); !bytes.Equal(third, lowest(1<<64-1, width)) {
			t.Errorf("Put of width %d: % x behind a changed answer", width, third)
		}
	}
}

// P1.10: what came before a call, and what has become of its arguments, doesn't matter.
func TestNothingIsKept(t *testing.T) {
	b := []byte("123456789")
	for range 3 {
		if got := octet.Sum(b); got != 0xcbf43926 {
			t.Fatalf("Sum: %08x, want cbf43926", got)
		}
		wantGet(t, b, 0, 2, 0x3132, api.OK)
		wantGet(t, b, 9, 1, 0, api.ErrShort)
		clear(b)
		if got, want := octet.Sum(b), plainSum(b); got != want {
			t.Fatalf("Sum of the changed bytes: %08x, want %08x", got, want)
		}
		wantGet(t, b, 0, 2, 0, api.OK)
		copy(b, "123456789")
	}
}
