package note

import (
	"iter"
	"strconv"
	"strings"

	"longshore/api"
	"longshore/octet"
)

// names are the kinds' names, by the kinds.
var names = [...]string{
	"null", "bool", "ubyte", "ushort", "uint", "ulong", "byte", "short", "int", "long", "float", "double", "dec32", "dec64", "dec128",
	"char", "time", "uuid", "binary", "string", "symbol", "list", "map", "array", "described",
}

const (
	openSigns  = "[{("
	closeSigns = "]})"
	pairSigns  = ":,"
)

// wantsSpace tells whether a space stands between two tokens; the first one is empty at the text's beginning.
func wantsSpace(last, next string) bool {
	return !strings.Contains(openSigns, last) && !strings.Contains(closeSigns+pairSigns, next)
}

// tokens are those of a value that may be, in order.
func tokens(v api.Value) iter.Seq[string] {
	return func(yield func(string) bool) { tell(v, yield) }
}

// tell hands v's tokens on; false: no more are wanted.
func tell(v api.Value, yield func(string) bool) bool {
	switch v.Kind {
	case api.Null:
		return yield(names[v.Kind])
	case api.Bool:
		return yield(strconv.FormatBool(v.Num == 1))
	case api.Float, api.Dec32, api.Double, api.Dec64, api.Dec128, api.Uuid:
		return yield(names[v.Kind]) && yield(bitsOf(v))
	case api.Binary, api.Symbol:
		return yield(names[v.Kind]) && yield(wordOf(v.Text))
	case api.String:
		return yield(wordOf(v.Text))
	case api.List:
		return yield("[") && tellAll(v.List, yield) && yield("]")
	case api.Map:
		return yield("{") && tellPairs(v.List, yield) && yield("}")
	case api.Array:
		return yield(names[v.Kind]) && yield(names[v.Elem]) && yield("[") && tellAll(v.List, yield) && yield("]")
	case api.Described:
		return yield("(") && tellAll(v.List, yield) && yield(")")
	}
	return yield(names[v.Kind]) && yield(integerOf(v))
}

func tellAll(list []api.Value, yield func(string) bool) bool {
	for _, part := range list {
		if !tell(part, yield) {
			return false
		}
	}
	return true
}

func tellPairs(list []api.Value, yield func(string) bool) bool {
	for at := 0; at < len(list); at += 2 {
		if at > 0 && !yield(",") {
			return false
		}
		if !tell(list[at], yield) || !yield(":") || !tell(list[at+1], yield) {
			return false
		}
	}
	return true
}

// wordOf is s in quotes; of a text that is too long for a note, as much as makes the note too long.
func wordOf(s string) string {
	return Quote(s[:min(len(s), api.MaxNote)])
}

func integerOf(v api.Value) string {
	if isSigned(v.Kind) {
		return strconv.FormatInt(int64(v.Num), 10)
	}
	return strconv.FormatUint(v.Num, 10)
}

func isSigned(kind int) bool {
	return api.Byte <= kind && kind <= api.Long || kind == api.Time
}

// bitsOf writes the bits of a value by their digits.
func bitsOf(v api.Value) string {
	if v.Text != "" {
		return hexOf(v.Text)
	}
	return hexOf(string(octet.Put(v.Num, bitsWidth(v.Kind))))
}

// bitsInText is how many bytes the bits are of a kind that has them in its text.
const bitsInText = 16

// bitsWidth is how many bytes the bits of a kind are.
func bitsWidth(kind int) int {
	switch kind {
	case api.Float, api.Dec32:
		return 4
	case api.Double, api.Dec64:
		return 8
	}
	return bitsInText
}
