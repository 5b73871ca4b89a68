package note_test

import (
	"math/rand"
	"strconv"
	"strings"
	"testing"

	"longshore/api"
	"longshore/note"
	"longshore/sample"
)

var (
	num, signed, text  = sample.Num, sample.Signed, sample.Text
	list, pairs, array = sample.List, sample.Pairs, sample.Array
	described, within  = sample.Described, sample.Within
	written, same      = sample.Written, sample.Same
	edges, mayBe       = sample.Edges, sample.MayBe
)

// simple are values without parts, with words in which much must be said by digits.
func simple() []api.Value {
	return append(edges(),
		text(api.String, ""), text(api.String, "\"\\\n\t \x00\x7f\u0085\u009f\u00a0\ufffd"), text(api.String, "# no comment"), text(api.String, "]}),:"),
		text(api.Symbol, "a b\"\\\n\x00\x7f"), text(api.Binary, "\xc3\xa9\xc3\xed\xa0\x80\xf4\x90\x80\x80\xc0\x80"), text(api.Binary, strings.Repeat("\xff", 300)))
}

// anyBytes is a text of pieces that mean something in a word in quotes, and of such as are no text.
func anyBytes(r *rand.Rand) string {
	pieces := []string{"a", "n", "x", " ", "~", "\"", "\\", "\n", "\x00", "\x1f", "\x7f", "\x80", "\xbf", "\xc3", "\xe2\x82", "\xff", "\xc0\x80", "\xed\xa0\x80", "\u0080", "\u009f", "\u00a0", "\u00e9", "\ufffd", "\uffff", "\U0010ffff", "4", "F", "g"}
	var b strings.Builder
	for range r.Intn(12) {
		b.WriteString(pieces[r.Intn(len(pieces))])
	}
	return b.String()
}

func wantQuote(t *testing.T, s, want string) {
	t.Helper()
	if got := note.Quote(s); got != want {
		t.Errorf("Quote(%+q): %+q, want %+q", s, got, want)
	}
}

func wantUnquote(t *testing.T, s, want string, wantIs bool) {
	t.Helper()
	if got, is := note.Unquote(s); got != want || is != wantIs {
		t.Errorf("Unquote(%+q): %+q, %v, want %+q, %v", s, got, is, want, wantIs)
	}
}

func wantPrint(t *testing.T, v api.Value, want string, wantErr api.Errno) {
	t.Helper()
	if got, e := note.Print(v); got != want || e != wantErr {
		t.Errorf("Print(%.200s): %.200s, %d, want %.200s, %d", written(v), got, e, want, wantErr)
	}
}

func wantParse(t *testing.T, s string, want api.Value, wantPlace int, wantErr api.Errno) {
	t.Helper()
	v, place, e := note.Parse(s)
	if !same(v, want) || place != wantPlace || e != wantErr {
		t.Errorf("Parse(%s): %.200s, %d, %d, want %.200s, %d, %d", brief(s), written(v), place, e, written(want), wantPlace, wantErr)
	}
}

// wantBoth wants v to be written as s, and s to be read as v.
func wantBoth(t *testing.T, v api.Value, s string) {
	t.Helper()
	wantPrint(t, v, s, api.OK)
	wantParse(t, s, v, 0, api.OK)
}

func brief(s string) string {
	if len(s) > 200 {
		return strconv.Quote(s[:200]) + ".. (" + strconv.Itoa(len(s)) + " bytes)"
	}
	return strconv.Quote(s)
}

// faulty is a text, the place of the fault that is met in it, and it.
type faulty struct {
	s     string
	place int
	e     api.Errno
}

// wantFaults wants the fault of each text, alone and behind blanks.
func wantFaults(t *testing.T, all []faulty) {
	t.Helper()
	ahead := " \t\n\r# a comment \" [ \xff\n"
	for _, f := range all {
		wantParse(t, f.s, api.Value{}, f.place, f.e)
		wantParse(t, ahead+f.s, api.Value{}, len(ahead)+f.place, f.e)
	}
}

// wantAsSaid holds Parse against the reference.
func wantAsSaid(t *testing.T, s string) {
	t.Helper()
	v, place, e := refParse(s)
	wantParse(t, s, v, place, e)
}
