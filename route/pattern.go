package route

import (
	"slices"
	"strings"

	"longshore/api"
)

const (
	longest   = 32 // bytes of a word
	mostParts = 8  // words of a topic, parts of a pattern
	mostAny   = 2  // parts of a pattern that are anyWords

	oneWord  = "*"
	anyWords = "#"
)

// Fits tells whether a pattern fits a topic.
func Fits(pattern, topic string) (bool, api.Errno) {
	parts, words := patternOf(pattern), topicOf(topic)
	switch {
	case parts == nil:
		return false, api.ErrPattern
	case words == nil:
		return false, api.ErrAddress
	}
	return fits(parts, words), api.OK
}

// Covers tells whether a pattern fits all that another one fits.
func Covers(a, b string) (bool, api.Errno) {
	parts, others := patternOf(a), patternOf(b)
	if parts == nil || others == nil {
		return false, api.ErrPattern
	}
	return fitsAll(parts, nil, others), api.OK
}

// patternOf is a pattern's parts; nil, if the text is none.
func patternOf(text string) []string {
	parts := split(text)
	several := 0
	for _, p := range parts {
		switch {
		case p == anyWords:
			several++
		case p != oneWord && !isWord(p):
			return nil
		}
	}
	if several > mostAny {
		return nil
	}
	return parts
}

// topicOf is a topic's words; nil, if the text is none.
func topicOf(text string) []string {
	words := split(text)
	if slices.ContainsFunc(words, func(w string) bool { return !isWord(w) }) {
		return nil
	}
	return words
}

// split is what stands between a text's dots; nil, if that is more than may be. It looks for one dot too many only: a text may be very long.
func split(text string) []string {
	parts := strings.SplitN(text, ".", mostParts+1)
	if len(parts) > mostParts {
		return nil
	}
	return parts
}

func isWord(s string) bool { return isMadeOf(s, longest, isOfWord) }

func isOfWord(b byte) bool { return b >= 'a' && b <= 'z' || b >= '0' && b <= '9' || b == '-' }

// fits tells whether parts can be laid over words.
func fits(parts, words []string) bool {
	switch {
	case len(parts) == 0:
		return len(words) == 0
	case parts[0] == anyWords:
		return fits(parts[1:], words) || len(words) > 0 && fits(parts, words[1:])
	case len(words) == 0:
		return false
	}
	return (parts[0] == oneWord || parts[0] == words[0]) && fits(parts[1:], words[1:])
}

// fitsAll tells whether parts can be laid over the words of each topic that begins with these words and goes on with what rest fits.
//
// A oneWord among the words stands for a word that the parts don't have: what can be laid over that one can be laid over any.
func fitsAll(parts, words, rest []string) bool {
	switch {
	case len(words) > mostParts:
		return true // there is no such topic
	case len(rest) == 0:
		return len(words) == 0 || fits(parts, words) // nor one without words
	case rest[0] == anyWords:
		return fitsAll(parts, words, rest[1:]) && fitsAll(parts, append(words, oneWord), rest)
	}
	return fitsAll(parts, append(words, rest[0]), rest[1:])
}
