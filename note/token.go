package note

import (
	"strings"

	"longshore/api"
)

// Kinds of tokens; a sign's kind is the sign.
const (
	endToken   = 0
	nameToken  = 'a'
	wordToken  = '"'
	otherToken = '?'
)

// token is what stands at a place of a text: a name, what a word says, a sign, the text's end, or a byte with which no token begins.
type token struct {
	kind byte
	at   int
	text string
}

// fault is an error, and its place.
type fault struct {
	at int
	e  api.Errno
}

// take goes on behind the next token.
func (p *parser) take() (token, *fault) {
	p.skip()
	t := token{kind: endToken, at: p.at}
	rest := p.text[p.at:]
	if rest == "" {
		return t, nil
	}
	length := 1
	switch first := rest[0]; {
	case first == '"':
		t.kind = wordToken
		t.text, length = readWord(rest)
		if length == 0 {
			return token{}, &fault{t.at, api.ErrQuote}
		}
	case isNameByte(first):
		t.kind = nameToken
		length = nameLength(rest)
		t.text = rest[:length]
	case strings.IndexByte(openSigns+closeSigns+pairSigns, first) >= 0:
		t.kind = first
	default:
		t.kind = otherToken
	}
	p.at += length
	return t, nil
}

// skip goes on behind blanks and comments.
func (p *parser) skip() {
	inComment := false
	for ; p.at < len(p.text); p.at++ {
		switch b := p.text[p.at]; {
		case inComment:
			inComment = b != '\n'
		case b == '#':
			inComment = true
		case strings.IndexByte(" \t\n\r", b) < 0:
			return
		}
	}
}

// nameLength is how long the name is with which s begins.
func nameLength(s string) int {
	for at := range len(s) {
		if !isNameByte(s[at]) {
			return at
		}
	}
	return len(s)
}

func isNameByte(b byte) bool {
	return 'a' <= b && b <= 'z' || '0' <= b && b <= '9' || b == '-'
}

// misplaced is the fault of a token that is none of those that may stand there.
func misplaced(t token) *fault {
	if t.kind == endToken || strings.IndexByte(closeSigns, t.kind) >= 0 {
		return &fault{t.at, api.ErrClose}
	}
	return &fault{t.at, api.ErrNote}
}
