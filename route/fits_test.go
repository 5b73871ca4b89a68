package route_test

import (
	"slices"
	"testing"

	"longshore/api"
)

// P18.3: a word over the same word, a star over any one word.
func TestFitsWords(t *testing.T) {
	for _, c := range []struct {
		pattern, topic string
		want           bool
	}{
		{"a", "a", true}, {"a", "b", false}, {"a", "aa", false}, {"aa", "a", false}, {"a", "a.a", false}, {"a.a", "a", false},
		{"a.b", "a.b", true}, {"a.b", "b.a", false}, {"a.b", "a.b.c", false}, {"a.b.c", "a.b", false}, {"a-b", "a.b", false}, {"ab", "a.b", false},
		{"*", "a", true}, {"*", "b", true}, {"*", "-", true}, {"*", "a.b", false},
		{"*.b", "a.b", true}, {"*.b", "b", false}, {"*.b", "b.b", true}, {"*.b", "a.a", false}, {"*.b", "a.b.b", false},
		{"a.*", "a", false}, {"a.*", "a.b", true}, {"a.*", "a.a", true}, {"a.*", "b.b", false}, {"a.*", "a.b.c", false},
		{"a.*.c", "a.b.c", true}, {"a.*.c", "a.c", false}, {"a.*.c", "a.b.b.c", false}, {"a.*.c", "a.c.c", true}, {"a.*.c", "a.b.b", false},
		{"*.*", "a", false}, {"*.*", "a.b", true}, {"*.*", "a.b.c", false}, {"*.b.*", "a.b.c", true}, {"*.b.*", "a.c.b", false},
		{"a.b.c.d.e.f.g.h", "a.b.c.d.e.f.g.h", true}, {"a.b.c.d.e.f.g.h", "a.b.c.d.e.f.g.i", false}, {"a.b.c.d.e.f.g.*", "a.b.c.d.e.f.g.i", true}, {"a.b.c.d.e.f.g", "a.b.c.d.e.f.g.h", false},
	} {
		wantFits(t, c.pattern, c.topic, c.want)
	}
	for n := range maxParts {
		for m := range maxParts {
			wantFits(t, row("*", n+1), row("a", m+1), n == m)
			wantFits(t, row("a", n+1), row("a", m+1), n == m)
		}
	}
}

// P18.3: a cross over no, one and many words, first, last, between, and two of them.
func TestFitsCross(t *testing.T) {
	for _, c := range []struct {
		pattern, topic string
		want           bool
	}{
		{"#", "a", true}, {"#", "a.b", true}, {"#", row("a", 8), true},
		{"a.#", "a", true}, {"a.#", "a.b", true}, {"a.#", "a.b.c.d.e.f.g.h", true}, {"a.#", "b", false}, {"a.#", "b.a", false}, {"a.#", "aa", false},
		{"#.a", "a", true}, {"#.a", "b.a", true}, {"#.a", "b.c.d.e.f.g.h.a", true}, {"#.a", "a.b", false}, {"#.a", "a.a", true}, {"#.a", "a.b.a", true},
		{"a.#.b", "a.b", true}, {"a.#.b", "a.c.b", true}, {"a.#.b", "a.c.d.e.f.g.h.b", true}, {"a.#.b", "a", false}, {"a.#.b", "b", false}, {"a.#.b", "a.b.c", false}, {"a.#.b", "a.b.b", true}, {"a.#.b", "a.b.c.b", true},
		{"a.#.a", "a", false}, {"a.#.a", "a.a", true}, {"a.#.a", "a.a.a", true},
		{"*.#", "a", true}, {"*.#", "a.b", true}, {"#.*", "a", true}, {"#.*", "a.b.c", true}, {"*.#.*", "a", false}, {"*.#.*", "a.b", true}, {"*.#.*", "a.b.c", true},
		{"#.#", "a", true}, {"#.#", row("a", 8), true}, {"#.a.#", "a", true}, {"#.a.#", "b.a", true}, {"#.a.#", "a.b", true}, {"#.a.#", "b.a.c.d", true}, {"#.a.#", "b", false}, {"#.a.#", "b.c.d.e.f.g.h.i", false}, {"#.a.#", "b.c.d.e.f.g.h.a", true},
		{"#.a.b.#", "a.b", true}, {"#.a.b.#", "a.a.b", true}, {"#.a.b.#", "a.c.b", false}, {"#.a.b.#", "b.a", false}, {"#.a.b.#", "a.c.a.b.c", true},
		{"#.a.*.#", "a", false}, {"#.a.*.#", "b.a.b", true}, {"#.a.*.#", "b.b.a", false}, {"#.*.a.#", "a", false}, {"#.*.a.#", "a.a", true}, {"#.*.a.#", "a.b.c", false},
		{"a.#.b.#.c", "a.b.c", true}, {"a.#.b.#.c", "a.c", false}, {"a.#.b.#.c", "a.x.b.y.c", true}, {"a.#.b.#.c", "a.c.b", false}, {"a.#.b.#.c", "a.b.b.c.c", true}, {"a.#.b.#.c", "a.x.y.b.z.c.d", false},
		{"#.a.#.b", "a.b", true}, {"#.a.#.b", "b.a", false}, {"#.a.#.b", "b.a.b", true}, {"a.#.b.#", "a.b", true}, {"a.#.b.#", "a", false}, {"a.#.b.#", "a.c.d.e.f.g.h.b", true}, {"a.#.b.#", "a.c.d.e.f.g.h.i", false},
		{"*.*.*.*.#.*.*.*", row("a", 7), true}, {"*.*.*.*.#.*.*.*", row("a", 8), true}, {"*.*.*.*.#.*.*.*", row("a", 6), false},
		{"#.*.*.*.*.*.*.#", row("a", 5), false}, {"#.*.*.*.*.*.*.#", row("a", 6), true}, {"#.*.*.*.*.*.*.#", row("a", 8), true},
	} {
		wantFits(t, c.pattern, c.topic, c.want)
	}
}

// P18.3: the pattern's error comes ahead of the topic's, each stands alone, too.
func TestFitsRefused(t *testing.T) {
	noPatterns, noTopics := slices.Concat(badTopics(), badPatterns()), slices.Concat(badTopics(), badPatterns(), goodPatterns())
	for _, p := range noPatterns {
		wantNoFits(t, p, "a", api.ErrPattern)
		for _, topic := range noTopics {
			wantNoFits(t, p, topic, api.ErrPattern)
		}
	}
	for _, p := range slices.Concat(goodPatterns(), goodTopics()) {
		for _, topic := range noTopics {
			wantNoFits(t, p, topic, api.ErrAddress)
		}
	}
}

// P18.3: all patterns of up to four parts, over few words, with all topics of up to five, held against the model.
func TestFitsAllShort(t *testing.T) {
	fitting := 0
	for _, p := range allPatterns(4, "a", "b") {
		is := model{}.pattern(p)
		for _, topic := range allTopics(5, "a", "b", "c") {
			want := is.MatchString(topic + ".")
			wantFits(t, p, topic, want)
			if want {
				fitting++
			}
		}
	}
	if fitting < 1000 {
		t.Errorf("only %d fit", fitting)
	}
}
