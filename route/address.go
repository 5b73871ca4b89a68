package route

import (
	"strings"

	"longshore/api"
)

// Kinds of addresses.
const (
	ToQueue = iota + 1
	ToTopic
	ToTxns
)

// Address reads an address: its kind, and what stands behind it.
func Address(text string) (int, string, api.Errno) {
	// What stands behind the kind is a piece of the text, which who gets the piece would keep.
	if name, is := strings.CutPrefix(text, "queue/"); is && isName(name) {
		return ToQueue, strings.Clone(name), api.OK
	}
	if pattern, is := strings.CutPrefix(text, "topic/"); is && patternOf(pattern) != nil {
		return ToTopic, strings.Clone(pattern), api.OK
	}
	if text == "txns" {
		return ToTxns, "", api.OK
	}
	return 0, "", api.ErrAddress
}

// isName tells whether a text is a queue's name.
func isName(s string) bool { return isMadeOf(s, api.MaxName, isOfName) }

func isOfName(b byte) bool { return isOfWord(b) || b == '.' || b == '_' }

// isMadeOf tells whether a text has bytes, no more than so many, of one sort only.
func isMadeOf(s string, most int, isOf func(byte) bool) bool {
	if len(s) < 1 || len(s) > most {
		return false
	}
	for i := range len(s) {
		if !isOf(s[i]) {
			return false
		}
	}
	return true
}
