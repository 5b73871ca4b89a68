package codec_test

import (
	"math/rand"
	"strings"
	"sync"
	"unicode/utf8"

	"longshore/api"
)

// The chapter's table, said once more and in another way, for the tests to hold the program against: each constructor, its kind, and what stands behind it. A digit is so many bytes of a number, 'x' sixteen bytes; 't' a text, 's' a span, 'a' an array's span, each with numbers of as many bytes; '-' nothing, 'd' two values.
const table = `40 0 -;41 1 -;42 1 -;56 1 1;50 2 1;60 3 2;43 4 -;52 4 1;70 4 4;44 5 -;53 5 1;80 5 8;51 6 1;61 7 2;54 8 1;71 8 4;55 9 1;81 9 8;
72 10 4;82 11 8;74 12 4;84 13 8;94 14 x;73 15 4;83 16 8;98 17 x;a0 18 t1;b0 18 t4;a1 19 t1;b1 19 t4;a3 20 t1;b3 20 t4;
45 21 -;c0 21 s1;d0 21 s4;c1 22 s1;d1 22 s4;e0 23 a1;f0 23 a4;00 24 d`

type row struct {
	code byte
	kind int
	data string
}

// rows is the table, read once.
var rows = sync.OnceValue(func() []row {
	var all []row
	for _, line := range strings.Split(table, ";") {
		f := strings.Fields(line)
		kind := 0
		for _, digit := range f[1] {
			kind = 10*kind + int(digit-'0')
		}
		all = append(all, row{hex(f[0])[0], kind, f[2]})
	}
	return all
})

func rowOf(code byte) (row, bool) {
	for _, r := range rows() {
		if r.code == code {
			return r, true
		}
	}
	return row{}, false
}

// refWriter writes values; of the forms that fit one it picks by choose.
type refWriter struct {
	all    []row
	choose func([][]byte) []byte
}

func shortestOf(forms [][]byte) []byte {
	best := forms[0]
	for _, f := range forms {
		if len(f) < len(best) {
			best = f
		}
	}
	return best
}

// shortestForm is what Encode must write.
func shortestForm(v api.Value) []byte {
	return refWriter{rows(), shortestOf}.value(v)
}

// anyForm is v in forms picked by chance.
func anyForm(r *rand.Rand, v api.Value) []byte {
	return refWriter{rows(), func(forms [][]byte) []byte { return forms[r.Intn(len(forms))] }}.value(v)
}

// value tries each constructor of the kind.
func (w refWriter) value(v api.Value) []byte {
	var forms [][]byte
	inner := w.inner(v)
	for _, r := range w.all {
		if r.kind != v.Kind {
			continue
		}
		if data, fits := w.data(v, r, inner); fits {
			forms = append(forms, append([]byte{r.code}, data...))
		}
	}
	return w.choose(forms)
}

// inner is what stands in v, whichever constructor v has.
func (w refWriter) inner(v api.Value) []byte {
	var b []byte
	switch v.Kind {
	case api.Array:
		var forms [][]byte
		var inners [][]byte
		for _, part := range v.List {
			inners = append(inners, w.inner(part))
		}
		for _, r := range w.all {
			if form, fits := w.arrayOf(v, r, inners); fits {
				forms = append(forms, form)
			}
		}
		return w.choose(forms)
	case api.List, api.Map, api.Described:
		for _, part := range v.List {
			b = append(b, w.value(part)...)
		}
	}
	return b
}

func (w refWriter) arrayOf(v api.Value, r row, inners [][]byte) ([]byte, bool) {
	if r.kind != v.Elem || r.data == "-" || r.data == "d" {
		return nil, false
	}
	b := []byte{r.code}
	for i, part := range v.List {
		data, fits := w.data(part, r, inners[i])
		if !fits {
			return nil, false
		}
		b = append(b, data...)
	}
	return b, true
}

// data is what stands behind the constructor of a row, if v fits it.
func (w refWriter) data(v api.Value, r row, inner []byte) ([]byte, bool) {
	switch r.data {
	case "-":
		is := map[byte]bool{0x40: true, 0x41: v.Num == 1, 0x42: v.Num == 0, 0x43: v.Num == 0, 0x44: v.Num == 0, 0x45: len(v.List) == 0}
		return nil, is[r.code]
	case "x":
		return []byte(v.Text), true
	case "t1", "t4":
		b, fits := bigEnd(len(v.Text), r.data)
		return append(b, v.Text...), fits
	case "s1", "s4", "a1", "a4":
		count, countFits := bigEnd(len(v.List), r.data)
		size, sizeFits := bigEnd(len(count)+len(inner), r.data)
		return append(append(size, count...), inner...), countFits && sizeFits
	case "d":
		return inner, true
	}
	width := int(r.data[0] - '0')
	b := make([]byte, width)
	for i := range b {
		b[i] = byte(v.Num >> (8 * (width - 1 - i)))
	}
	return b, refNumber(r.kind, b) == v.Num
}

func bigEnd(n int, data string) ([]byte, bool) {
	if data[1] == '1' {
		return []byte{byte(n)}, n < 256
	}
	return []byte{byte(n >> 24), byte(n >> 16), byte(n >> 8), byte(n)}, true
}

// refNumber is the number that bytes are: below 0 if the kind has a sign and the first bit is set.
func refNumber(kind int, b []byte) uint64 {
	n := uint64(0)
	for _, octet := range b {
		n = n<<8 + uint64(octet)
	}
	if kind >= api.Byte && kind <= api.Long && len(b) < 8 && b[0] >= 128 {
		n -= 1 << (8 * len(b))
	}
	return n
}

// refFault is a fault and its place; nil: there is none.
type refFault struct {
	place int
	e     api.Errno
}

// refReader reads b, of which what lies from end on is not there; short is the fault where something is not there.
type refReader struct {
	b     []byte
	end   int
	short *refFault
}

// refDecode is what Decode must answer.
func refDecode(b []byte, at int) (api.Value, int, api.Errno) {
	if at < 0 || at > len(b) {
		return api.Value{}, 0, api.ErrArg
	}
	v, next, f := refReader{b, len(b), &refFault{len(b), api.ErrShort}}.value(at, 1)
	if f == nil && next-at > 1048576 {
		f = &refFault{at, api.ErrLong}
	}
	if f != nil {
		return api.Value{}, f.place, f.e
	}
	return v, next, api.OK
}

func (r refReader) value(at, depth int) (api.Value, int, *refFault) {
	if at >= r.end {
		return api.Value{}, 0, r.short
	}
	form, is := rowOf(r.b[at])
	if !is {
		return api.Value{}, 0, &refFault{at, api.ErrCode}
	}
	if depth > 32 {
		return api.Value{}, 0, &refFault{at, api.ErrDeep}
	}
	return r.data(form, at+1, at, depth)
}

func (r refReader) data(form row, at, mapAt, depth int) (api.Value, int, *refFault) {
	v := api.Value{Kind: form.kind}
	switch form.data {
	case "-":
		if form.code == 0x41 {
			v.Num = 1
		}
		return v, at, nil
	case "d":
		l, next, f := r.values(2, at, depth+1)
		v.List = l
		return v, next, f
	case "x":
		if r.end-at < 16 {
			return v, 0, r.short
		}
		v.Text = string(r.b[at : at+16])
		return v, at + 16, nil
	case "t1", "t4":
		return r.text(v, at, int(form.data[1]-'0'))
	case "s1", "s4", "a1", "a4":
		return r.span(v, form, at, mapAt, depth)
	}
	width := int(form.data[0] - '0')
	if r.end-at < width {
		return v, 0, r.short
	}
	v.Num = refNumber(form.kind, r.b[at:at+width])
	if form.kind == api.Bool && v.Num > 1 || form.kind == api.Char && (v.Num > 0x10ffff || v.Num >= 0xd800 && v.Num <= 0xdfff) {
		return v, 0, &refFault{at, api.ErrForm}
	}
	return v, at + width, nil
}

func (r refReader) values(count, at, depth int) ([]api.Value, int, *refFault) {
	var l []api.Value
	for range count {
		v, next, f := r.value(at, depth)
		if f != nil {
			return nil, 0, f
		}
		l, at = append(l, v), next
	}
	return l, at, nil
}

func (r refReader) text(v api.Value, at, width int) (api.Value, int, *refFault) {
	if r.end-at < width {
		return v, 0, r.short
	}
	n := int(refNumber(api.Uint, r.b[at:at+width]))
	at += width
	if r.end-at < n {
		return v, 0, r.short
	}
	v.Text = string(r.b[at : at+n])
	for i, c := range v.Text {
		_, size := utf8.DecodeRuneInString(v.Text[i:])
		if v.Kind == api.String && c == utf8.RuneError && size == 1 || v.Kind == api.Symbol && c > 127 {
			return v, 0, &refFault{at + i, api.ErrUtf}
		}
	}
	return v, at + n, nil
}

func (r refReader) span(v api.Value, form row, at, mapAt, depth int) (api.Value, int, *refFault) {
	width, least := int(form.data[1]-'0'), int(form.data[1]-'0')
	if form.data[0] == 'a' {
		least++
	}
	bad := &refFault{at, api.ErrSpan}
	if r.end-at < width {
		return v, 0, r.short
	}
	size := int(refNumber(api.Uint, r.b[at:at+width]))
	if size < least {
		return v, 0, bad
	}
	if r.end-at-width < size {
		return v, 0, r.short
	}
	in := refReader{r.b, at + width + size, bad}
	count := int(refNumber(api.Uint, r.b[at+width:at+2*width]))
	if v.Kind == api.Map && count%2 == 1 {
		return v, 0, &refFault{mapAt, api.ErrKey}
	}
	if v.Kind == api.Map && count > 2048 {
		return v, 0, &refFault{mapAt, api.ErrLong}
	}
	var next int
	var f *refFault
	if v.Kind == api.Array {
		v.Elem, v.List, next, f = in.elements(count, at+2*width, depth)
	} else {
		v.List, next, f = in.values(count, at+2*width, depth+1)
	}
	if f != nil {
		return v, 0, f
	}
	if next < in.end {
		return v, 0, bad
	}
	if v.Kind == api.Map && sameKeys(v.List) {
		return v, 0, &refFault{mapAt, api.ErrKey}
	}
	return v, next, nil
}

func (r refReader) elements(count, at, depth int) (int, []api.Value, int, *refFault) {
	form, is := rowOf(r.b[at])
	if !is || form.data == "-" || form.data == "d" {
		return 0, nil, 0, &refFault{at, api.ErrCode}
	}
	var l []api.Value
	next := at + 1
	for range count {
		if depth+1 > 32 {
			return 0, nil, 0, &refFault{next, api.ErrDeep}
		}
		v, behind, f := r.data(form, next, next, depth+1)
		if f != nil {
			return 0, nil, 0, f
		}
		l, next = append(l, v), behind
	}
	return form.kind, l, next, nil
}

func sameKeys(l []api.Value) bool {
	seen := map[string]bool{}
	for i := 0; i < len(l); i += 2 {
		key := written(l[i])
		if seen[key] {
			return true
		}
		seen[key] = true
	}
	return false
}
