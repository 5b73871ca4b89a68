package route_test

import (
	"math/big"
	"regexp"
	"slices"
	"strings"
	"testing"

	"longshore/api"
)

// model is a second way to what the chapter says: a list of bindings in the order in which they came, patterns as regular expressions, and what a pattern fits as a set of all topics that matter.
type model struct{ list []api.Binding }

const word = `[a-z0-9\-]{1,32}`

var (
	aTopic   = regexp.MustCompile(`\A` + word + `(\.` + word + `){0,7}\z`)
	aPattern = regexp.MustCompile(`\A(` + word + `|\*|#)(\.(` + word + `|\*|#)){0,7}\z`)
	aName    = regexp.MustCompile(`\A[a-z0-9\-._]{1,64}\z`)
	anAddr   = regexp.MustCompile(`\A(queue|topic)/(.*)\z|\Atxns\z`)
)

func isTopic(s string) bool { return aTopic.MatchString(s) }

func isPattern(s string) bool { return aPattern.MatchString(s) && strings.Count(s, "#") <= 2 }

// pattern is a regular expression for a pattern, over topics with a dot behind them.
func (model) pattern(p string) *regexp.Regexp {
	e := `\A`
	for _, part := range strings.Split(p, ".") {
		switch part {
		case "*":
			e += `[^.]+\.`
		case "#":
			e += `([^.]+\.)*`
		default:
			e += part + `\.`
		}
	}
	return regexp.MustCompile(e + `\z`)
}

func (m *model) Bind(b api.Binding) api.Errno {
	if !isPattern(b.Pattern) {
		return 180
	}
	if !aName.MatchString(b.Queue) {
		return 82
	}
	if slices.Contains(m.list, b) {
		return 181
	}
	if len(m.list) >= maxBinds {
		return 183
	}
	m.list = append(m.list, b)
	return 0
}

func (m *model) Unbind(b api.Binding) api.Errno {
	i := slices.Index(m.list, b)
	if i < 0 {
		return 182
	}
	m.list = slices.Delete(m.list, i, i+1)
	return 0
}

func (m *model) Drop(queue string) int {
	n := 0
	for i := len(m.list) - 1; i >= 0; i-- {
		if m.list[i].Queue == queue {
			m.Unbind(m.list[i])
			n++
		}
	}
	return n
}

func (m *model) Match(topic string) ([]string, api.Errno) {
	if !isTopic(topic) {
		return nil, 82
	}
	var l []string
	for _, b := range m.list {
		if !slices.Contains(l, b.Queue) && m.pattern(b.Pattern).MatchString(topic+".") {
			l = append(l, b.Queue)
		}
	}
	slices.Sort(l)
	return l, 0
}

// Bindings sorts by the queues first, then, staying so, by the patterns.
func (m *model) Bindings() []api.Binding {
	l := slices.Clone(m.list)
	slices.SortFunc(l, func(a, b api.Binding) int { return strings.Compare(a.Queue, b.Queue) })
	slices.SortStableFunc(l, func(a, b api.Binding) int { return strings.Compare(a.Pattern, b.Pattern) })
	return l
}

func (m model) Fits(pattern, topic string) (bool, api.Errno) {
	if !isPattern(pattern) {
		return false, 180
	}
	if !isTopic(topic) {
		return false, 82
	}
	return m.pattern(pattern).MatchString(topic + "."), 0
}

func (model) Address(text string) (int, string, api.Errno) {
	parts := anAddr.FindStringSubmatch(text)
	switch {
	case parts == nil:
	case parts[1] == "queue" && aName.MatchString(parts[2]):
		return 1, parts[2], 0
	case parts[1] == "topic" && isPattern(parts[2]):
		return 2, parts[2], 0
	case parts[1] == "":
		return 3, "", 0
	}
	return 0, "", 82
}

// allTopics are all topics of up to so many words out of these.
func allTopics(most int, words ...string) []string {
	all, last := []string(nil), []string{""}
	for range most {
		var next []string
		for _, s := range last {
			for _, w := range words {
				next = append(next, strings.TrimPrefix(s+"."+w, "."))
			}
		}
		all, last = append(all, next...), next
	}
	return all
}

// allPatterns are all patterns of up to so many parts out of these words, stars and crosses.
func allPatterns(most int, words ...string) []string {
	return slices.DeleteFunc(allTopics(most, append(slices.Clone(words), "*", "#")...), func(s string) bool { return strings.Count(s, "#") > 2 })
}

// reach is which of some topics a pattern fits, found by steps through the topic's words: which of the pattern's parts may come next, a bit each.
func reach(pattern string, topics []string) *big.Int {
	parts := strings.Split(pattern, ".")
	set := new(big.Int)
	for i, topic := range topics {
		next := opened(parts, 1)
		for w := range strings.SplitSeq(topic, ".") {
			next = opened(parts, stepped(parts, next, w))
		}
		if next>>len(parts) == 1 {
			set.SetBit(set, i, 1)
		}
	}
	return set
}

// opened are also those parts that may come next as a cross ahead of them has nothing.
func opened(parts []string, next uint) uint {
	for at, part := range parts {
		if part == "#" && next>>at&1 == 1 {
			next |= 2 << at
		}
	}
	return next
}

// stepped are the parts that may come next behind a word.
func stepped(parts []string, next uint, w string) uint {
	to := uint(0)
	for at, part := range parts {
		bit := next & (1 << at)
		switch part {
		case "#":
			to |= bit
		case "*", w:
			to |= bit << 1
		}
	}
	return to
}

// contains tells whether one set has all that another one has.
func contains(a, b *big.Int) bool { return new(big.Int).AndNot(b, a).Sign() == 0 }

// The model's two ways to what fits agree.
func TestModelAgrees(t *testing.T) {
	topics := allTopics(5, "a", "b", "c")
	for _, p := range allPatterns(3, "a", "b") {
		set, is := reach(p, topics), model{}.pattern(p)
		for i, topic := range topics {
			if (set.Bit(i) == 1) != is.MatchString(topic+".") {
				t.Fatalf("%q and %q: %d", p, topic, set.Bit(i))
			}
		}
	}
}
