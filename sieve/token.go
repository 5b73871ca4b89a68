package sieve

import "strings"

// Kinds of tokens. A fixed one is a keyword, in small letters, or one of = <> < <= > >= + - * / ( ) and the comma. Where no token begins noToken stands for it: the grammar has a place for it nowhere, so it is refused as one that may not stand there.
const (
	noToken = iota
	endToken
	fixedToken
	numberToken
	textToken
	nameToken
)

// token is a token, what it says (of a text and a quoted name what stands between the quotation marks), and its place. What a text or a name says is a copy, so that a term that is kept does not keep the whole filter.
type token struct {
	kind int
	text string
	at   int
}

// tokenAt reads the token that begins at the first byte from a place on that is no blank, and the place behind it.
func tokenAt(text string, at int) (token, int) {
	for at < len(text) && isBlank(text[at]) {
		at++
	}
	if at == len(text) {
		return token{endToken, "", at}, at
	}
	switch c := text[at]; {
	case isDigit(c):
		end := numberEnd(text, at)
		return token{numberToken, text[at:end], at}, end
	case isLetter(c):
		end := wordEnd(text, at)
		return wordToken(text[at:end], at), end
	case c == '\'':
		return quotedToken(textToken, text, at)
	case c == '"':
		return quotedToken(nameToken, text, at)
	}
	if end := fixedEnd(text, at); end > at {
		return token{fixedToken, text[at:end], at}, end
	}
	return token{noToken, "", at}, at
}

func isBlank(c byte) bool { return c == '\t' || c == '\n' || c == '\r' || c == ' ' }

func isDigit(c byte) bool { return c >= '0' && c <= '9' }

// isLetter tells whether a word may begin with a byte.
func isLetter(c byte) bool { return c >= 'a' && c <= 'z' || c >= 'A' && c <= 'Z' || c == '_' }

func digitsEnd(text string, at int) int {
	for at < len(text) && isDigit(text[at]) {
		at++
	}
	return at
}

// numberEnd is where the number ends that begins at a place: a point, an e without digits behind it is not part of it.
func numberEnd(text string, at int) int {
	at = digitsEnd(text, at)
	if at < len(text) && text[at] == '.' {
		if end := digitsEnd(text, at+1); end > at+1 {
			at = end
		}
	}
	if at < len(text) && (text[at] == 'e' || text[at] == 'E') {
		from := at + 1
		if from < len(text) && (text[from] == '+' || text[from] == '-') {
			from++
		}
		if end := digitsEnd(text, from); end > from {
			at = end
		}
	}
	return at
}

// wordEnd is where the word ends that begins at a place: a - with which it would end is not part of it.
func wordEnd(text string, at int) int {
	for at < len(text) {
		dashed := text[at] == '-' && at+1 < len(text) && (isLetter(text[at+1]) || isDigit(text[at+1]))
		if !dashed && !isLetter(text[at]) && !isDigit(text[at]) && text[at] != '.' {
			break
		}
		at++
	}
	return at
}

func wordToken(word string, at int) token {
	if small := strings.ToLower(word); isKeyword(small) {
		return token{fixedToken, small, at}
	}
	return token{nameToken, strings.Clone(word), at}
}

func isKeyword(small string) bool {
	switch small {
	case "and", "or", "not", "between", "in", "like", "escape", "is", "null", "true", "false":
		return true
	}
	return false
}

// isWord tells whether a name, written as it is, is read as that name.
func isWord(name string) bool {
	return name != "" && isLetter(name[0]) && wordEnd(name, 0) == len(name) && !isKeyword(strings.ToLower(name))
}

// quotedToken reads what stands in the quotation marks that begin at a place; where they are not closed no token begins.
func quotedToken(kind int, text string, at int) (token, int) {
	mark := text[at]
	for end := at + 1; end < len(text); end++ {
		if text[end] != mark {
			continue
		}
		if end+1 == len(text) || text[end+1] != mark {
			return token{kind, unquoted(text[at : end+1]), at}, end + 1
		}
		end++
	}
	return token{noToken, "", at}, at
}

// unquoted is what stands between two quotation marks, with what is written twice there taken once.
func unquoted(text string) string {
	mark := text[:1]
	return strings.Clone(strings.ReplaceAll(text[1:len(text)-1], mark+mark, mark))
}

// quoted is a text between quotation marks, as unquoted takes it.
func quoted(text, mark string) string {
	return mark + strings.ReplaceAll(text, mark, mark+mark) + mark
}

// fixedEnd is where the longest token without letters ends that begins at a place; the place itself, if none does.
func fixedEnd(text string, at int) int {
	for _, long := range [...]string{"<>", "<=", ">="} {
		if strings.HasPrefix(text[at:], long) {
			return at + len(long)
		}
	}
	if strings.IndexByte("=<>+-*/(),", text[at]) >= 0 {
		return at + 1
	}
	return at
}
