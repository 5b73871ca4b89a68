package route_test

import (
	"strings"
	"testing"

	"longshore/api"
	"longshore/route"
)

// ofWords are all bytes that may be in a word.
const ofWords = "abcdefghijklmnopqrstuvwxyz0123456789-"

// goodWords are words: at the bounds of their lengths, with each byte that may be in one.
func goodWords() []string {
	l := []string{"a", "z", "0", "9", "-", "--", "-a", "a-", "42", "queue", strings.Repeat("w", maxWord-1), strings.Repeat("w", maxWord), strings.Repeat("-", maxWord), ofWords[:maxWord], ofWords[5:]}
	for _, b := range []byte(ofWords) {
		l = append(l, string(b), "x"+string(b)+"y")
	}
	return l
}

// badWords are no words, nor parts of a pattern: too short, too long, with each byte that may not be in one (a dot parts words, and is tried elsewhere).
func badWords() []string {
	l := []string{"", strings.Repeat("w", maxWord+1), strings.Repeat("w", 2*maxWord), strings.Repeat("w", 256+maxWord), strings.Repeat("*", maxWord), "**", "##", "*#", "#*", "a*", "*a", "a#", "#a", "a*b", "a#b", " a", "a ", "\n", "a\n", "\na", "a/b", "ä", "é", "\u0430", "\uff41", "a\x00", "\x00", "Queue", "a\xff", "\xc3\xa4"}
	for b := range 256 {
		if c := string([]byte{byte(b)}); c != "." && !strings.Contains(ofWords, c) {
			l = append(l, "x"+c+"y", c+"y", "x"+c)
			if c != "*" && c != "#" {
				l = append(l, c)
			}
		}
	}
	return l
}

// goodTopics are topics beyond single words; each is a pattern, too.
func goodTopics() []string {
	return []string{"a.b", "a.a", "-.-", "0.1.2", row("a", 7), row("a", 8), "a.b.c.d.e.f.g.h", row(strings.Repeat("w", maxWord), maxParts), "queue.topic.txns"}
}

// badTopics are neither topics nor patterns.
func badTopics() []string {
	return []string{"", ".", "..", ".a", "a.", "a..b", "..a", "a..", ".a.b", "a.b.", "a. b", row("a", 9), row("a", 10), row("a", 16), row("a", 8+256), row("a", 8) + ".", "." + row("a", 8), strings.Repeat(".", 7), strings.Repeat(".", 8),
		row(strings.Repeat("w", maxWord), maxParts) + "w", row("a", 7) + "." + strings.Repeat("w", maxWord+1), strings.Repeat("w", maxWord+1) + ".a", "a.B", "a._", "a_b", "a:b", "a/b", "a,b", "a.b\n", "\x00.a"}
}

// goodPatterns are patterns that are no topics.
func goodPatterns() []string {
	return []string{"*", "#", "*.*", "#.#", "*.#", "#.*", "a.*", "*.a", "a.#", "#.a", "a.#.b.#.c", "#.a.#", "#.*.#", "#.#.*", "*.#.#", row("*", 7), row("*", 8), "#." + row("*", 6) + ".#", "#.#." + row("a", 6), "a.b.c.d.e.f.g.#", "#.b.c.d.e.f.g.*", strings.Repeat("w", maxWord) + ".*"}
}

// badPatterns are no patterns, by their stars and crosses, though they may be near one.
func badPatterns() []string {
	return []string{"#.#.#", "#.a.#.b.#", "#.#.#.#", "a.#.#.#", "#.#.a.#", row("#", 8), row("*", 9), row("*", 8) + ".#", "#." + row("*", 8), row("*", 8) + "..", "*.", ".*", "#.", ".#", "*..*", "#..#", "*.a*", "#.a#", "*a.b", "a.**", "a.##", "a.*#", "*#", "#*", " *", "# ", "*\n", "a.*.", "/*", "*/#"}
}

// wantTopic holds a text against all that takes topics.
func wantTopic(t *testing.T, text string, is bool) {
	t.Helper()
	r := routed(t, binding("#", "q"))
	if is {
		wantMatch(t, r, text, "q")
		wantFits(t, "#", text, true)
		return
	}
	wantNoMatch(t, r, text)
	wantNoFits(t, "#", text, api.ErrAddress)
}

// wantPattern holds a text against all that takes patterns.
func wantPattern(t *testing.T, text string, is bool) {
	t.Helper()
	if !is {
		wantErrno(t, "Bind "+brief(text), made(t).Bind(binding(text, "q")), api.ErrPattern)
		wantNoFits(t, text, "a", api.ErrPattern)
		wantNoCovers(t, text, "a")
		wantNoCovers(t, "a", text)
		wantNoCovers(t, text, text)
		wantNoAddress(t, "topic/"+text)
		return
	}
	wantBindings(t, routed(t, binding(text, "q")), binding(text, "q"))
	if _, e := route.Fits(text, "a"); e != api.OK {
		t.Fatalf("Fits(%q, a): %d", text, e)
	}
	wantCovers(t, text, text, true)
	wantCovers(t, "#", text, true)
	wantAddress(t, "topic/"+text, 2, text)
}

// The chapter's section 'Types': a word, by itself and at each place of a topic, of a pattern.
func TestWords(t *testing.T) {
	for _, w := range goodWords() {
		for _, text := range []string{w, w + ".a", "a." + w, "a." + w + ".b", row("a", 7) + "." + w} {
			wantTopic(t, text, true)
			wantPattern(t, text, true)
		}
		wantPattern(t, w+".*", true)
		wantPattern(t, "#."+w, true)
		wantFits(t, w, w, true)
		wantFits(t, w, w+".a", false)
		wantFits(t, w, "other", false)
	}
	for _, w := range badWords() {
		for _, text := range []string{w, w + ".a", "a." + w, "a." + w + ".b", row("a", 7) + "." + w} {
			wantTopic(t, text, false)
			wantPattern(t, text, false)
		}
		wantPattern(t, w+".*", false)
		wantPattern(t, "#."+w, false)
	}
}

// The chapter's section 'Types': a topic, which is a pattern that fits just that topic.
func TestTopics(t *testing.T) {
	for i, text := range goodTopics() {
		wantTopic(t, text, true)
		wantPattern(t, text, true)
		for j, other := range goodTopics() {
			wantFits(t, text, other, i == j)
			wantCovers(t, text, other, i == j)
		}
	}
	for _, text := range badTopics() {
		wantTopic(t, text, false)
		wantPattern(t, text, false)
	}
}

// The chapter's section 'Types': a pattern, which is no topic where it has a star or a cross.
func TestPatterns(t *testing.T) {
	for _, text := range goodPatterns() {
		wantTopic(t, text, false)
		wantPattern(t, text, true)
	}
	for _, text := range badPatterns() {
		wantTopic(t, text, false)
		wantPattern(t, text, false)
	}
}

// The chapter's section 'Types': topics of 0 to 20 words, patterns of 0 to 20 parts.
func TestLengths(t *testing.T) {
	for n := range 20 {
		is := n >= 1 && n <= maxParts
		wantTopic(t, row("a", n), is)
		wantPattern(t, row("a", n), is)
		wantPattern(t, row("*", n), is)
		wantPattern(t, row("#", n), n == 1 || n == 2)
	}
}

// goodNames are queues' names: at the bounds of their lengths, with each byte that may be in one.
func goodNames() []string {
	l := []string{"a", ".", "_", "-", "..", "a..b", ".a", "a.", "_a_", "a.b_c-d", "0", strings.Repeat("q", maxWord), strings.Repeat("q", maxWord+1), strings.Repeat("q", maxName-1), strings.Repeat("q", maxName), strings.Repeat(".", maxName), row("a", 9), "txns"}
	for _, b := range []byte(ofWords + "._") {
		l = append(l, string(b), "x"+string(b)+"y")
	}
	return l
}

// badNames are none.
func badNames() []string {
	l := []string{"", strings.Repeat("q", maxName+1), strings.Repeat("q", maxName+256), "Q", "queue/q", "q ", " q", "q\n", "*", "#", "ä", "a\x00", "a/b", "a.B"}
	for b := range 256 {
		if c := string([]byte{byte(b)}); !strings.Contains(ofWords+"._", c) {
			l = append(l, c, "x"+c+"y", c+"y", "x"+c)
		}
	}
	return l
}

// The chapter's section 'Types': a queue's name, in bindings and in addresses.
func TestNames(t *testing.T) {
	for _, name := range goodNames() {
		r := routed(t, binding("a", name))
		wantBindings(t, r, binding("a", name))
		wantMatch(t, r, "a", name)
		wantDrop(t, r, name, 1)
		wantAddress(t, "queue/"+name, 1, name)
	}
	for _, name := range badNames() {
		r := made(t)
		wantErrno(t, "Bind to "+brief(name), r.Bind(binding("a", name)), api.ErrAddress)
		wantBindings(t, r)
		wantNoAddress(t, "queue/"+name)
	}
}
