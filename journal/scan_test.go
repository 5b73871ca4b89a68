package journal_test

import (
	"fmt"
	"math"
	"math/rand"
	"strings"
	"testing"

	"longshore/api"
	"longshore/journal"
)

// rest is bytes behind whole batches, and whether they are no beginning.
type rest struct {
	name string
	data string
	torn bool
}

// rests are all that may stand behind whole batches, at the edges.
func rests() []rest {
	b := batch("abc")
	turned := func(at int) string { return b[:at] + string(b[at]^1) + b[at+1:] }
	long := strings.Repeat("x", maxRecord+1)
	l := []rest{
		{"just a head", b[:8], false},
		{"a head and one byte", b[:9], false},
		{"all but the last byte", b[:len(b)-1], false},
		{"all but the sum", b[:len(b)-4], false},
		{"a head that says much", head(math.MaxUint32), false},
		{"a head that says much, and more", head(math.MaxUint32) + b + b, false},
		{"a head that says 5", head(5), false},
		{"a head that says 5, one byte too few", head(5) + "12345678", false},
		{"a head that says 5, as many bytes", head(5) + "123456789", true},
		{"a head that says 5, more bytes", head(5) + "1234567890", true},
		{"a head that says 4", head(4), true},
		{"a head that says 4, and its bytes", framed("1234"), true},
		{"a head that says 4, a number of no bytes", framed(body("")), true},
		{"a head that says 0", head(0), true},
		{"a head that says 0, and its sum", framed(""), true},
		{"a head that says 1", head(1), true},
		{"a head with a wrong sum", turned(4)[:8], true},
		{"a head with a wrong sum, at its end", turned(7)[:8], true},
		{"a head with a wrong number", turned(3)[:8], true},
		{"a head with a wrong number that is great", turned(0)[:8], true},
		{"a wrong head, and more", turned(7), true},
		{"a wrong head without the last byte", turned(7)[:7], false},
		{"eight zeros", number(0) + number(0), true},
		{"seven zeros", (number(0) + number(0))[:7], false},
		{"a wrong sum", turned(len(b) - 1), true},
		{"a wrong sum, and a whole batch", turned(len(b)-4) + b, true},
		{"a wrong byte in the body", turned(12), true},
		{"a wrong byte in the body, the last one missing", turned(12)[:len(b)-1], false},
		{"a record that runs over the body", framed(number(2) + "x"), true},
		{"a record that runs far over the body", framed("\xff\xff\xff\xffx"), true},
		{"a record that does not fill the body", framed(body("x") + "y"), true},
		{"a record and three bytes", framed(body("x") + "\x00\x00\x00"), true},
		{"a record and a number alone", framed(body("x") + number(1)), true},
		{"a record of no bytes", framed(body("x", "")), true},
		{"a record of no bytes first", framed(body("", "x")), true},
		{"a record of no bytes, in the midst", framed(body("x", "", "y")), true},
		{"a body of five bytes that is none", framed("12345"), true},
		{"a record that is too long", framed(body(long)), true},
		{"a record that is too long behind another", framed(body("x", long)), true},
		{"a record that is too long, the last byte missing", framed(body(long))[:len(framed(body(long)))-1], false},
	}
	for n := 1; n <= 7; n++ {
		l = append(l, rest{fmt.Sprint(n, " bytes"), b[:n], false}, rest{fmt.Sprint(n, " bytes of nothing"), "junkjunk"[:n], false})
	}
	return l
}

// P20.1: safe is 0 to len(data).
func TestScanOfSafe(t *testing.T) {
	for _, s := range []string{"", "x", log("a"), log("a") + "x"} {
		for _, safe := range []int{math.MinInt, -1 << 32, -2, -1, len(s) + 1, len(s) + 2, 1 << 31, 1 << 32, math.MaxInt} {
			wantNoScan(t, s, safe)
		}
		end := len(s) / 17 * 17
		for safe := 0; safe <= len(s); safe++ {
			wantScan(t, s, safe, end, []string{"a"}[:end/17]...)
		}
	}
	// Ahead of all that may be wrong with the bytes.
	for _, r := range rests() {
		wantNoScan(t, r.data, -1)
		wantNoScan(t, r.data, len(r.data)+1)
	}
}

// P20.1: whole batches, one behind the other; whatever is safe.
func TestScanOfWhole(t *testing.T) {
	for _, l := range [][]string{nil, {"a"}, {"a", "b"}, {"a b"}, {"a b", "c", "d e f"}, {"long" + strings.Repeat("x", 1000), "a"}, strings.Split(strings.Repeat("x,", 99)+"x", ",")} {
		s := log(l...)
		for _, safe := range []int{0, 1, 8, 16, 17, 18, len(s) - 1, len(s)} {
			if 0 <= safe && safe <= len(s) {
				wantScan(t, s, safe, len(s), l...)
			}
		}
	}
}

// P20.1: records may have any bytes, and 1 to 1049600 of them.
func TestScanOfRecords(t *testing.T) {
	all := make([]byte, 256)
	for i := range all {
		all[i] = byte(i)
	}
	for _, words := range [][]string{
		{string(all)}, {"\x00"}, {"\x00", "\x00\x00"}, {log("a")}, {log("a"), "b"},
		{strings.Repeat("y", maxRecord-1)}, {strings.Repeat("y", maxRecord)}, {"a", strings.Repeat("z", maxRecord), "b"},
	} {
		s := batch(words...) + batch("end")
		l, end, e := journal.Scan([]byte(s), len(s))
		if want := told([][][]byte{records(words...), records("end")}); told(l) != want || end != len(s) || e != api.OK {
			t.Errorf("%s, %d, %d, want %s", told(l), end, e, want)
		}
	}
}

// P20.1: what stands behind whole batches, with end below safe, at safe and beyond it: only what is safe is ever torn.
func TestScanOfRests(t *testing.T) {
	for _, l := range [][]string{nil, {"a"}, {"a", "b c"}} {
		for _, r := range rests() {
			end := len(log(l...))
			s := log(l...) + r.data
			for _, safe := range []int{0, end - 1, end, end + 1, end + 7, end + 8, len(s) - 1, len(s)} {
				switch {
				case safe < 0 || safe > len(s):
				case r.torn && safe > end:
					wantTorn(t, s, safe, end)
				default:
					wantScan(t, s, safe, end, l...)
				}
			}
		}
	}
}

// P20.1: what stands behind what is no whole batch is not looked at, be it whole batches.
func TestScanStops(t *testing.T) {
	for _, r := range rests() {
		s := log("a") + r.data + log("b", "c")
		wantScan(t, s, 17, 17, "a")
		wantScan(t, s, 0, 17, "a")
	}
}

// P20.1: any bytes, of batches and what is nearly so, held against the model.
func TestAnyScan(t *testing.T) {
	r := rand.New(rand.NewSource(201))
	met := map[string]int{}
	for range 20000 {
		s := anyLog(r)
		safe := r.Intn(len(s)+3) - 1
		l, end, e := journal.Scan([]byte(s), safe)
		want, at, number := scanModel(s, safe)
		if told(l) != told(want) || end != at || e != number {
			t.Fatalf("Scan(%q, %d): %s, %d, %d, want %s, %d, %d", s, safe, told(l), end, e, told(want), at, number)
		}
		met[fmt.Sprint(number, " ", at > 0, " ", at < len(s))]++
	}
	for _, want := range []string{"0 false false", "0 true false", "0 true true", "0 false true", "1 false true", "201 false true", "201 true true"} {
		if met[want] < 100 {
			t.Errorf("%s: only %d times", want, met[want])
		}
	}
}

// anyLog is whole batches and, mostly, something behind them; sometimes a byte of it all is turned.
func anyLog(r *rand.Rand) string {
	s := ""
	for range r.Intn(4) {
		s += bytesOf(anyRecords(r))
	}
	switch r.Intn(6) {
	case 0:
	case 1:
		s += string(anyBytes(r, 30))
	case 2:
		s += framed(string(anyBytes(r, 12)))
	case 3:
		s += head(r.Intn(30)) + string(anyBytes(r, 40))
	default:
		b := bytesOf(anyRecords(r))
		s += b[:r.Intn(len(b)+1)]
	}
	if b := []byte(s); r.Intn(4) == 0 && len(b) > 0 {
		b[r.Intn(len(b))] ^= 1 << r.Intn(8)
		s = string(b)
	}
	return s
}

// anyRecords are a few short ones.
func anyRecords(r *rand.Rand) [][]byte {
	var l [][]byte
	for range 1 + r.Intn(anyOf(r, 1, 1, 3, 5)) {
		l = append(l, append(anyBytes(r, 8), byte(r.Intn(256))))
	}
	return l
}

func anyBytes(r *rand.Rand, n int) []byte {
	b := make([]byte, r.Intn(n+1))
	r.Read(b)
	return b
}

func anyOf[T any](r *rand.Rand, l ...T) T { return l[r.Intn(len(l))] }
