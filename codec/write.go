package codec

import (
	"longshore/api"
	"longshore/octet"
)

// length is how many bytes the shortest form of v takes.
func length(v api.Value) int {
	code, body := form(v)
	return 1 + head(code) + body
}

// form is the shortest constructor of v where it stands alone, and how long v's body is.
func form(v api.Value) (code byte, body int) {
	switch {
	case v.Kind == api.Bool && v.Num == 1:
		return codeTrue, 0
	case v.Kind == api.Bool:
		return codeFalse, 0
	case v.Kind == api.Uint && v.Num == 0:
		return codeUint0, 0
	case v.Kind == api.Ulong && v.Num == 0:
		return codeUlong0, 0
	case v.Kind == api.List && len(v.List) == 0:
		return codeNothing, 0
	}
	body = bodyLength(v)
	return pick(v.Kind, isSmall(v, body)), body
}

// arrayForm is the shortest constructor that fits all elements of an array, and how many bytes their data takes behind it.
func arrayForm(v api.Value) (code byte, data int) {
	small := true
	for _, part := range v.List {
		body := bodyLength(part)
		small = small && isSmall(part, body)
		data += body
	}
	code = pick(v.Elem, small)
	return code, data + len(v.List)*head(code)
}

func pick(kind int, small bool) byte {
	if small {
		return sized[kind][0]
	}
	return sized[kind][1]
}

// bodyLength is how many bytes of v's data are the same behind each constructor: those behind lengths, sizes and counts.
func bodyLength(v api.Value) int {
	switch v.Kind {
	case api.Binary, api.String, api.Symbol:
		return len(v.Text)
	case api.Array:
		_, data := arrayForm(v)
		return 1 + data
	}
	body := 0
	for _, part := range v.List {
		body += length(part)
	}
	return body
}

// isSmall tells whether v, with such a body, fits the shorter of its kind's two constructors.
func isSmall(v api.Value, body int) bool {
	switch v.Kind {
	case api.Uint, api.Ulong:
		return v.Num <= oneByte
	case api.Int, api.Long:
		return int64(v.Num) == int64(int8(v.Num))
	case api.Binary, api.String, api.Symbol:
		return body <= oneByte
	case api.List, api.Map, api.Array:
		// Where the size fits one byte the count does too: each element takes a byte at least.
		return narrow+body <= oneByte
	}
	return true
}

// head is how many bytes of the data behind a constructor are not its body.
func head(code byte) int {
	switch lay := layout(code); lay {
	case layDescribed, layNoData:
		return 0
	case laySixteen:
		return 16
	case layShortText:
		return narrow
	case layLongText:
		return wide
	case laySmallSpan, laySmallArray:
		return narrow + narrow
	case layGreatSpan, layGreatArray:
		return wide + wide
	}
	return numberWidth(code)
}

// write puts the shortest form of v behind b.
func write(b []byte, v api.Value) []byte {
	code, body := form(v)
	return writeData(append(b, code), v, code, body)
}

// writeData puts what stands behind a constructor of v behind b.
func writeData(b []byte, v api.Value, code byte, body int) []byte {
	width := wide
	switch layout(code) {
	case layNoData:
	case layShortText:
		width = narrow
		fallthrough
	case layLongText:
		b = append(b, octet.Put(uint64(body), width)...)
		fallthrough
	case laySixteen:
		b = append(b, v.Text...)
	case laySmallArray:
		width = narrow
		fallthrough
	case layGreatArray:
		b = writeElements(writeSpan(b, v, width, body), v)
	case laySmallSpan:
		width = narrow
		fallthrough
	case layGreatSpan:
		b = writeSpan(b, v, width, body)
		fallthrough
	case layDescribed:
		for _, part := range v.List {
			b = write(b, part)
		}
	default:
		b = append(b, octet.Put(v.Num, numberWidth(code))...)
	}
	return b
}

// writeSpan puts a size and a count behind b.
func writeSpan(b []byte, v api.Value, width, body int) []byte {
	b = append(b, octet.Put(uint64(width+body), width)...)
	return append(b, octet.Put(uint64(len(v.List)), width)...)
}

// writeElements puts an array's constructor and its elements' data behind b.
func writeElements(b []byte, v api.Value) []byte {
	code, _ := arrayForm(v)
	b = append(b, code)
	for _, part := range v.List {
		b = writeData(b, part, code, bodyLength(part))
	}
	return b
}
