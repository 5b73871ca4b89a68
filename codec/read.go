package codec

import (
	"slices"

	"longshore/api"
	"longshore/octet"
	"longshore/value"
)

// fault is what a reader gives up with: the error, and its place.
type fault struct {
	at int
	e  api.Errno
}

func giveUp(at int, e api.Errno) { panic(fault{at, e}) }

// nowhere stands for the place of a size where the reader is in no span.
const nowhere = -1

// reader reads from the place at on what is there ahead of end; sizeAt is where the size of the innermost span stands.
type reader struct {
	b      []byte
	at     int
	end    int
	sizeAt int
}

// value reads a constructor and its data.
func (r *reader) value(depth int) api.Value {
	place := r.at
	code := byte(r.number(1))
	kind, is := kindOf(code)
	if !is {
		giveUp(place, api.ErrCode)
	}
	if depth > api.MaxDepth {
		giveUp(place, api.ErrDeep)
	}
	return r.data(kind, code, place, depth)
}

// data reads what stands behind a constructor; place is the place of the value, if it should be a map.
func (r *reader) data(kind int, code byte, place, depth int) api.Value {
	v := api.Value{Kind: kind}
	width := wide
	switch layout(code) {
	case layDescribed:
		descriptor := r.value(depth + 1)
		v.List = []api.Value{descriptor, r.value(depth + 1)}
	case layNoData:
		if code == codeTrue {
			v.Num = 1
		}
	case laySixteen:
		v.Text = r.bytes(16)
	case layShortText:
		width = narrow
		fallthrough
	case layLongText:
		v.Text = r.text(kind, width)
	case laySmallSpan:
		width = narrow
		fallthrough
	case layGreatSpan:
		v.List = r.elements(kind, width, place, depth)
	case laySmallArray:
		width = narrow
		fallthrough
	case layGreatArray:
		v.Elem, v.List = r.array(width, depth)
	default:
		v.Num = r.numberOf(kind, numberWidth(code))
	}
	return v
}

// need gives up unless so many bytes are there.
func (r *reader) need(n int) {
	if r.end-r.at >= n {
		return
	}
	if r.sizeAt == nowhere {
		giveUp(len(r.b), api.ErrShort)
	}
	giveUp(r.sizeAt, api.ErrSpan)
}

func (r *reader) number(width int) uint64 {
	r.need(width)
	n, _ := octet.Get(r.b, r.at, width)
	r.at += width
	return n
}

func (r *reader) bytes(n int) string {
	r.need(n)
	text := string(r.b[r.at : r.at+n])
	r.at += n
	return text
}

// numberOf reads the number of a value of a kind.
func (r *reader) numberOf(kind, width int) uint64 {
	place := r.at
	n := r.number(width)
	switch kind {
	case api.Byte, api.Short, api.Int, api.Long:
		unused := 64 - 8*width
		n = uint64(int64(n<<unused) >> unused)
	case api.Bool, api.Char:
		if value.Check(api.Value{Kind: kind, Num: n}) != api.OK {
			giveUp(place, api.ErrForm)
		}
	}
	return n
}

// text reads a text behind its length.
func (r *reader) text(kind, width int) string {
	n := int(r.number(width))
	place := r.at
	text := r.bytes(n)
	bad := -1
	switch kind {
	case api.String:
		bad = octet.Utf8(text)
	case api.Symbol:
		bad = octet.Ascii(text)
	}
	if bad >= 0 {
		giveUp(place+bad, api.ErrUtf)
	}
	return text
}

// span reads a size, which is at least so much, and a count; inner reads what stands behind them, and nothing may be left then.
func (r *reader) span(width, least int, inner func(count int)) {
	outerEnd, outerAt := r.end, r.sizeAt
	place := r.at
	size := int(r.number(width))
	if size < least {
		giveUp(place, api.ErrSpan)
	}
	r.need(size)
	r.end, r.sizeAt = r.at+size, place
	inner(int(r.number(width)))
	if r.at < r.end {
		giveUp(place, api.ErrSpan)
	}
	r.end, r.sizeAt = outerEnd, outerAt
}

// elements reads those of a list, or of a map.
func (r *reader) elements(kind, width, place, depth int) []api.Value {
	var list []api.Value
	r.span(width, width, func(count int) {
		if kind == api.Map && count%2 != 0 {
			giveUp(place, api.ErrKey)
		}
		if kind == api.Map && count/2 > api.MaxPairs {
			giveUp(place, api.ErrLong)
		}
		// The count may be a lie: room is made as elements come.
		for range count {
			list = append(list, r.value(depth+1))
		}
	})
	if kind == api.Map && hasKeyTwice(list) {
		giveUp(place, api.ErrKey)
	}
	return list
}

// array reads the constructor and the elements of an array: their kind, and they.
func (r *reader) array(width, depth int) (int, []api.Value) {
	kind, list := 0, []api.Value(nil)
	r.span(width, width+1, func(count int) {
		code := byte(r.number(1))
		if !standsInArray(code) {
			giveUp(r.at-1, api.ErrCode)
		}
		kind, _ = kindOf(code)
		for range count {
			if depth+1 > api.MaxDepth {
				giveUp(r.at, api.ErrDeep)
			}
			list = append(list, r.data(kind, code, r.at, depth+1))
		}
	})
	return kind, list
}

// hasKeyTwice holds neighbours against each other in the keys' order: of all pairs there may be half a million.
func hasKeyTwice(list []api.Value) bool {
	var keys []api.Value
	for at := 0; at < len(list); at += 2 {
		keys = append(keys, list[at])
	}
	slices.SortFunc(keys, value.Order)
	for i := 1; i < len(keys); i++ {
		if value.Equal(keys[i-1], keys[i]) {
			return true
		}
	}
	return false
}
