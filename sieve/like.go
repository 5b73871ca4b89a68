package sieve

import "unicode/utf8"

const (
	// noEscape is the escape that no sign is.
	noEscape = -1
	// anySign stands in a row for any one sign; itself it is none.
	anySign rune = -2
	// behindRunes is behind all characters: a byte that begins none is the sign that is so much greater.
	behindRunes rune = utf8.MaxRune + 1
)

// Like tells whether a text fits a pattern.
func Like(text, pattern string, escape int) bool {
	signs := signsOf(text)
	rows := rowsOf(pattern, escapeOrNone(escape))
	first, last := rows[0], rows[len(rows)-1]
	if len(rows) == 1 {
		return len(signs) == len(first) && begins(signs, first)
	}
	if !begins(signs, first) {
		return false
	}
	signs = signs[len(first):]
	// Each row stands as far to the left as it may, so that the most is left for those behind it.
	for _, row := range rows[1 : len(rows)-1] {
		at := find(signs, row)
		if at < 0 {
			return false
		}
		signs = signs[at+len(row):]
	}
	return len(signs) >= len(last) && begins(signs[len(signs)-len(last):], last)
}

// escapeOrNone is an escape that is a character, or one that no sign is. (No sign is negative, or from D800 to DFFF; but behind the characters lie the bytes with which none begins, and these escape nothing.)
func escapeOrNone(escape int) int {
	if escape > utf8.MaxRune {
		return noEscape
	}
	return escape
}

// signsOf takes a text as signs: its characters, and each byte with which none begins.
func signsOf(text string) []rune {
	signs := make([]rune, 0, len(text))
	for at := 0; at < len(text); {
		sign, size := utf8.DecodeRuneInString(text[at:])
		if sign == utf8.RuneError && size == 1 {
			sign = behindRunes + rune(text[at])
		}
		signs = append(signs, sign)
		at += size
	}
	return signs
}

// rowsOf is what stands ahead of, between and behind the % of a pattern: one row more than there are such.
func rowsOf(pattern string, escape int) [][]rune {
	signs := signsOf(pattern)
	var rows [][]rune
	var row []rune
	for i := 0; i < len(signs); i++ {
		switch {
		case int(signs[i]) == escape && i+1 < len(signs):
			i++
			row = append(row, signs[i])
		case int(signs[i]) == escape:
			row = append(row, signs[i])
		case signs[i] == '%':
			rows = append(rows, row)
			row = nil
		case signs[i] == '_':
			row = append(row, anySign)
		default:
			row = append(row, signs[i])
		}
	}
	return append(rows, row)
}

// endsOpen tells whether a pattern ends with an escape that escapes nothing.
func endsOpen(pattern string, escape int) bool {
	open := false
	for _, sign := range signsOf(pattern) {
		open = !open && int(sign) == escape
	}
	return open
}

// find is the first place at which a row stands; -1: it stands nowhere.
func find(signs, row []rune) int {
	for at := 0; at+len(row) <= len(signs); at++ {
		if begins(signs[at:], row) {
			return at
		}
	}
	return -1
}

// begins tells whether signs begin with what a row stands for.
func begins(signs, row []rune) bool {
	if len(signs) < len(row) {
		return false
	}
	for i, sign := range row {
		if sign != anySign && sign != signs[i] {
			return false
		}
	}
	return true
}
