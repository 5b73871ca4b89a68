package route_test

import (
	"fmt"
	"math/big"
	"math/rand"
	"slices"
	"strings"
	"testing"
)

// P18.3: what hangs on the words, on the bound of 8 words, on a word that neither pattern has, on crosses on either side.
func TestCovers(t *testing.T) {
	for _, c := range []struct {
		a, b string
		want bool
	}{
		{"a", "a", true}, {"a", "b", false}, {"a", "*", false}, {"*", "a", true}, {"*", "*", true}, {"*", "a.b", false}, {"a.b", "a", false}, {"a", "a.b", false},
		{"a.*", "*.b", false}, {"*.*", "a.*", true}, {"*.*", "*.b", true}, {"a.*.c", "a.b.*", false}, {"*.b.*", "a.b.c", true}, {"a.b", "*.*", false},
		// A topic has one word or more.
		{"*.#", "#", true}, {"#.*", "#", true}, {"#.#", "#", true}, {"#", "#.#", true}, {"*.#", "#.#", true}, {"*.*.#", "#", false}, {"*.*.#", "#.*", false}, {"*.*.#", "#.*.*", true}, {"*.#.*", "#.*.*", true}, {"*.#", "a.#", true}, {"a.#", "*.#", false},
		{"*", "#", false}, {"*", "#.*", false}, {"*", "a.#", false}, {"a.#", "#", false}, {"#.a", "#", false},
		// No topic has more than 8 words.
		{row("*", 8), "#." + row("*", 7), false}, {row("*", 8), "#", false}, {row("*", 8), row("a", 8), true}, {row("*", 8), row("*", 7) + ".a", true}, {row("a", 8), row("*", 8), false},
		{"#." + row("*", 7), row("*", 7) + ".#", true}, {row("*", 7) + ".#", "#." + row("*", 7), true}, {"#." + row("*", 6), "#." + row("*", 7), true}, {"#." + row("*", 7), "#." + row("*", 6), false},
		{"a." + row("*", 7), "a.#." + row("*", 6), false}, {"a.#.b", "a." + row("*", 6) + ".b", true}, {row("*", 7) + ".#", "a.b.#.c.d.#.e.f", false}, {row("*", 6) + ".#", "a.b.#.c.d.#.e.f", true},
		{"a.#.b", row("a", 7) + ".b", true}, {"a.#.*.#.b", "a.#.b", false}, {"#.a.#", row("*", 7) + ".a", true},
		{"*.*.*.*.a.#", "#.a.b.c.d", false}, {"#.a.b.c.d", "*.*.*.*.a.#", false}, {"#.a.b.c.d", "*.*.*.*.a.b.c.d", true}, {"*.*.*.*.a.#", "*.*.*.*.a.#.b.#", true},
		// Only as no topic has 9 words: then between the first and the next stood two others.
		{"a.*.a.#", "a.#." + row("a", 6), true}, {"a.*.a.#", "a.#." + row("a", 5), false}, {"#.a.*.a", row("a", 6) + ".#.a", true}, {"#.a.*.a", row("a", 5) + ".#.a", false},
		// Just as long as may be, a cross has nothing.
		{row("*", 8), row("*", 8), true}, {"a.b.c.d.e.f.g.#", "a.b.c.d.e.f.g.*", true}, {"a.b.c.d.e.f.g.*", "a.b.c.d.e.f.g.#", false}, {"*.b.c.d.e.f.g.#", "#.b.c.d.e.f.g.*", false}, {"#.b.c.d.e.f.g.#", "*.b.c.d.e.f.g.*", true}, {"#.b.c.d.e.f.g.#", "#.b.c.d.e.f.g.#", true},
		{"a.a.a.a.#", "a.a.a.a.a.#", true}, {"a.a.a.a.a.#", "a.a.a.a.#", false}, {"a.#.a", "a.a.#.a", true}, {"a.a.#.a", "a.#.a.a", false}, {"a.a.#.a", "a.a.#.a.a", true}, {"a.#.a.a", "a.#.a", false},
		// Words that neither has, and words that both have.
		{"#.a.#", "*", false}, {"#.a.#", "*.a.*", true}, {"#.a.#", "#.b.#", false}, {"#.a.#", "#.a.b.#", true}, {"#.a.b.#", "#.a.#.b", false}, {"#.a.b.#", "a.#.b", false}, {"#.a.#.b", "a.#.b", true}, {"a.#.b.#", "a.#.b", true}, {"a.#.b", "a.#.b.#", false}, {"a.*.b.#", "a.*.b", true}, {"#.a.#", "b.*", false},
		{"#.*.a", "#.a", false}, {"#.*.a", "a.#.a", true}, {"#.*.a", "b.#.a", true}, {"a.*.#", "a.#.b", true}, {"a.*.#", "a.#", false}, {"#.a.*.#", "#.a.#.b", true}, {"#.a.*.#", "a.#.b.#.c", true}, {"#.a.b.#", "a.#.b.#", false}, {"#.a.*.#", "#.a.#", false},
	} {
		wantCovers(t, c.a, c.b, c.want)
	}
}

// P18.3: ErrPattern, whichever of the two is none.
func TestCoversRefused(t *testing.T) {
	bad := slices.Concat(badTopics(), badPatterns())
	for _, p := range bad {
		for _, other := range slices.Concat(goodPatterns(), goodTopics()) {
			wantNoCovers(t, p, other)
			wantNoCovers(t, other, p)
		}
		for _, other := range bad {
			wantNoCovers(t, p, other)
		}
	}
}

// world is all topics that matter to patterns of some words, and which of them each pattern fits.
type world struct {
	topics   []string
	patterns []string
	reaches  []*big.Int
}

// wholeWorld has all topics of up to 8 words out of these words and one that no pattern has.
func wholeWorld(patterns []string, words ...string) world {
	w := world{topics: allTopics(maxParts, append(slices.Clone(words), "other")...), patterns: patterns}
	for _, p := range patterns {
		w.reaches = append(w.reaches, reach(p, w.topics))
	}
	return w
}

// wantPair holds Covers against the sets, and counts the answers.
func (w world) wantPair(t *testing.T, i, j int, met map[bool]int) {
	t.Helper()
	want := contains(w.reaches[i], w.reaches[j])
	wantCovers(t, w.patterns[i], w.patterns[j], want)
	if i != j {
		met[want]++
	}
}

func wantBoth(t *testing.T, met map[bool]int, atLeast int) {
	t.Helper()
	if met[true] < atLeast || met[false] < atLeast {
		t.Errorf("only %v", met)
	}
}

// P18.3: all pairs of patterns of up to three parts out of two words, held against all topics of up to 8 words of these and a third one.
func TestCoversAllShort(t *testing.T) {
	w := wholeWorld(allPatterns(3, "a", "b"), "a", "b")
	met := map[bool]int{}
	for i := range w.patterns {
		for j := range w.patterns {
			w.wantPair(t, i, j, met)
		}
	}
	wantBoth(t, met, 400)
}

// P18.3: all pairs of patterns of up to four parts out of one word, held against all topics of up to 8 words of this and a second one.
func TestCoversAllOfOneWord(t *testing.T) {
	w := wholeWorld(allPatterns(4, "a"), "a")
	met := map[bool]int{}
	for i := range w.patterns {
		for j := range w.patterns {
			w.wantPair(t, i, j, met)
		}
	}
	wantBoth(t, met, 800)
}

// P18.3: long patterns of one word, with those that are near to them.
func TestCoversLong(t *testing.T) {
	r := rand.New(rand.NewSource(183))
	met := map[bool]int{}
	for range 150 {
		l := []string{anyRow(r, 4+r.Intn(5), "a", "*", "#")}
		for range 14 {
			l = append(l, nearTo(r, l[r.Intn(len(l))], "a", "*", "#"))
		}
		w := wholeWorld(l, "a")
		for i := range l {
			for j := range l {
				w.wantPair(t, i, j, met)
			}
		}
	}
	wantBoth(t, met, 3000)
}

// P18.3: the longest patterns with a cross, and short ones that cover some of them, a few only as no topic has 9 words.
func TestCoversByTheBound(t *testing.T) {
	r := rand.New(rand.NewSource(196))
	l := allPatterns(4, "a")
	short := len(l)
	for _, p := range allTopics(maxParts, "a", "*", "#") {
		if n := strings.Count(p, "."); n == 7 && strings.Count(p, "#") == 1 && r.Intn(3) == 0 || n >= 6 && strings.Count(p, "#") == 2 && r.Intn(8) == 0 {
			l = append(l, p)
		}
	}
	w := wholeWorld(append(l, "a.#."+row("a", 6), row("a", 6)+".#.a"), "a")
	longer := slices.DeleteFunc(allTopics(maxParts+1, "a", "other"), func(s string) bool { return strings.Count(s, ".") < maxParts })
	beyond := make([]*big.Int, len(w.patterns))
	for i, p := range w.patterns {
		beyond[i] = reach(p, longer)
	}
	met := map[bool]int{}
	bounded := 0
	for i := range short {
		for j := range w.patterns {
			w.wantPair(t, i, j, met)
			if contains(w.reaches[i], w.reaches[j]) && !contains(beyond[i], beyond[j]) {
				bounded++
			}
		}
	}
	wantBoth(t, met, 3000)
	if bounded < 20 {
		t.Errorf("the bound counts in only %d", bounded)
	}
}

// P18.3: patterns of several words, with those that are near to them, held against all topics that can be made of b with the words that matter.
func TestCoversOfWords(t *testing.T) {
	r := rand.New(rand.NewSource(184))
	met := map[bool]int{}
	for range 40 {
		l := []string{anyRow(r, 1+r.Intn(8), "a", "b", "*", "#", "#")}
		for range 10 {
			l = append(l, nearTo(r, l[r.Intn(len(l))], "a", "b", "*", "#"))
		}
		w := wholeWorld(l, "a", "b")
		for i := range l {
			for j := range l {
				w.wantPair(t, i, j, met)
			}
		}
	}
	wantBoth(t, met, 400)
}

// anyRow is a pattern of so many parts out of these.
func anyRow(r *rand.Rand, n int, parts ...string) string {
	for {
		var l []string
		for range n {
			l = append(l, parts[r.Intn(len(parts))])
		}
		if p := strings.Join(l, "."); isPattern(p) {
			return p
		}
	}
}

// nearTo is a pattern with a part or two more, less, or another one.
func nearTo(r *rand.Rand, p string, parts ...string) string {
	for {
		l := strings.Split(p, ".")
		for range 1 + r.Intn(2) {
			at, part := r.Intn(len(l)), parts[r.Intn(len(parts))]
			switch {
			case r.Intn(3) == 0:
				l = slices.Insert(l, at, part)
			case r.Intn(2) == 0 && len(l) > 1:
				l = slices.Delete(l, at, at+1)
			default:
				l[at] = part
			}
		}
		if near := strings.Join(l, "."); isPattern(near) {
			return near
		}
	}
}

// P18.3: patterns with as many different words as may be, on both sides.
func TestCoversManyWords(t *testing.T) {
	var first, second []string
	for i := range maxParts {
		first, second = append(first, fmt.Sprint("first", i)), append(second, fmt.Sprint("second", i))
	}
	a, b := strings.Join(first, "."), strings.Join(second, ".")
	wantCovers(t, a, a, true)
	wantCovers(t, a, b, false)
	wantCovers(t, b, a, false)
	wantCovers(t, row("*", 8), a, true)
	wantCovers(t, a, row("*", 8), false)
	for i := range maxParts {
		star := strings.Join(slices.Replace(slices.Clone(first), i, i+1, "*"), ".")
		cross := strings.Join(slices.Replace(slices.Clone(first), i, i+1, "#"), ".")
		wantCovers(t, star, a, true)
		wantCovers(t, a, star, false)
		wantCovers(t, cross, star, true)
		wantCovers(t, star, cross, false)
		wantCovers(t, cross, strings.Join(slices.Delete(slices.Clone(first), i, i+1), "."), true)
	}
	// A word that stands for any one is none that could be written: 37 words of one byte are not enough to cover a star.
	for _, c := range ofWords {
		wantCovers(t, string(c), "*", false)
		wantCovers(t, "*."+string(c), "*.*", false)
		wantCovers(t, "#."+string(c)+".#", "*", false)
	}
}
