package note_test

import (
	"math/rand"
	"strings"
	"testing"

	"longshore/api"
	"longshore/note"
	"longshore/sample"
	"longshore/value"
)

// P4.5: what Print writes is read as it was.
func TestPrintAndParse(t *testing.T) {
	r, simple := rand.New(rand.NewSource(46)), simple()
	texts := map[string]string{}
	for _, v := range simple {
		s, e := note.Print(v)
		if e != api.OK {
			t.Fatalf("Print(%s): %d", written(v), e)
		}
		wantParse(t, s, v, 0, api.OK)
	}
	for range 5000 {
		v := mayBe(r.Intn, simple, r.Intn(5))
		s, e := note.Print(v)
		if e == api.ErrLong {
			continue
		}
		got, place, e := note.Parse(s)
		if !value.Equal(got, v) || !same(got, v) || place != 0 || e != api.OK {
			t.Fatalf("%s came back as %s, %d, %d", written(v), written(got), place, e)
		}
		// Unlike values are written unlike.
		if other, is := texts[s]; is && other != written(v) {
			t.Fatalf("%s and %s are both written as %s", other, written(v), s)
		}
		texts[s] = written(v)
	}
}

// P4.5: what Parse answers is printed, and read again.
func TestParseAndPrint(t *testing.T) {
	r, simple := rand.New(rand.NewSource(47)), simple()
	read := 0
	for range 20000 {
		s := spoil(r, refPrint(mayBe(r.Intn, simple, r.Intn(3))))
		v, _, e := note.Parse(s)
		if e != api.OK {
			continue
		}
		read++
		if e := value.Check(v); e != api.OK {
			t.Fatalf("Parse(%s) answers %s, which may not be: %d", brief(s), written(v), e)
		}
		printed, e := note.Print(v)
		if e != api.OK {
			t.Fatalf("Print(%s): %d", written(v), e)
		}
		wantParse(t, printed, v, 0, api.OK)
	}
	if read < 1000 {
		t.Errorf("only %d of the texts were read", read)
	}
}

// P4.5: a text that fits may be of a value whose own text does not.
func TestParseOfWhatIsTooLongToPrint(t *testing.T) {
	for _, s := range []string{
		"[" + strings.Repeat("[]", (api.MaxNote-2)/2) + "]",
		"\"" + strings.Repeat("\u0085", (api.MaxNote-2)/2) + "\"",
		"\"" + strings.Repeat("\x7f", api.MaxNote-2) + "\"",
	} {
		v, _, e := note.Parse(s)
		if e != api.OK || value.Check(v) != api.OK {
			t.Fatalf("Parse(%s): %d", brief(s), e)
		}
		wantPrint(t, v, "", api.ErrLong)
	}
}

// P4.6, DOC.md's R6: what came before a call doesn't matter.
func TestNothingIsKept(t *testing.T) {
	for range 3 {
		wantParse(t, `[true "a`, api.Value{}, 6, api.ErrQuote)
		wantParse(t, "[true]", list(num(api.Bool, 1)), 0, api.OK)
		wantPrint(t, num(api.Bool, 2), "", api.ErrNum)
		wantPrint(t, list(num(api.Bool, 1)), "[true]", api.OK)
		wantQuote(t, "\xff", `"\xff"`)
		wantUnquote(t, `"\xf"`, "", false)
		wantUnquote(t, `"\xff"`, "\xff", true)
	}
}

// P4.6: many at the same time answer as one does.
func TestSideBySide(t *testing.T) {
	r, simple := rand.New(rand.NewSource(48)), simple()
	v := mayBe(r.Intn, simple, 4)
	s := refPrint(v)
	done := make(chan bool)
	for range 8 {
		go func() {
			defer func() { done <- true }()
			for range 20 {
				wantPrint(t, v, s, api.OK)
				wantParse(t, s, v, 0, api.OK)
			}
		}()
	}
	for range 8 {
		<-done
	}
}

// DOC.md's R2: values that are handed in stay, with the spare room of their lists; R3: nil and empty lists are the same.
func TestValuesStay(t *testing.T) {
	r, simple := rand.New(rand.NewSource(49)), simple()
	for range 500 {
		plain := mayBe(r.Intn, simple, r.Intn(5))
		v := sample.Roomy(plain)
		before := sample.WithRoom(v)
		s, e := note.Print(v)
		if after := sample.WithRoom(v); after != before {
			t.Fatalf("a value that was handed in was %s, is %s", before, after)
		}
		wantPrint(t, plain, s, e)
	}
}

// DOC.md's R2: what Parse answers is new memory, each list of it apart.
func TestValuesAreNew(t *testing.T) {
	r, simple := rand.New(rand.NewSource(50)), simple()
	for range 500 {
		v := mayBe(r.Intn, simple, 1+r.Intn(3))
		s := refPrint(v)
		first, _, _ := note.Parse(s)
		second, _, _ := note.Parse(s)
		sample.Scribble(first)
		if !same(second, v) {
			t.Fatalf("a value that was read from %s changed with another one", brief(s))
		}
		if !sample.Apart(func() api.Value { v, _, _ := note.Parse(s); return v }) {
			t.Fatalf("a list in what was read from %s changed with another one", brief(s))
		}
	}
}
