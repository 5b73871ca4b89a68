package value

import (
	"slices"

	"longshore/api"
	"longshore/octet"
)

const (
	fixedText     = 16 // bytes of a Dec128, of a Uuid
	describedHas  = 2
	lastCodePoint = 0x10ffff
	// The code points that no text has: octet.Utf8 finds no bytes for them.
	firstSurrogate, lastSurrogate = 0xd800, 0xdfff
)

// Check tells whether a value may be.
func Check(v api.Value) api.Errno {
	for depth, part := range walk(v) {
		if e := fault(part, depth); e != api.OK {
			return e
		}
	}
	return api.OK
}

// fault is what is wrong with a value that stands at a depth; what is wrong with its parts is asked of them.
func fault(v api.Value, depth int) api.Errno {
	switch {
	case v.Kind < api.Null || v.Kind > api.Described:
		return api.ErrKind
	case depth > api.MaxDepth:
		return api.ErrDeep
	case hasExtra(v):
		return api.ErrExtra
	case !isNum(v):
		return api.ErrNum
	case !isText(v):
		return api.ErrText
	case v.Kind == api.Map && !isMap(v):
		return api.ErrMap
	case v.Kind == api.Array && !isArray(v):
		return api.ErrArray
	case v.Kind == api.Described && len(v.List) != describedHas:
		return api.ErrParts
	}
	return api.OK
}

func hasExtra(v api.Value) bool {
	num, text, list, elem := v.Num != 0, v.Text != "", len(v.List) > 0, v.Elem != 0
	switch v.Kind {
	case api.Null:
		return num || text || list || elem
	case api.Dec128, api.Uuid, api.Binary, api.String, api.Symbol:
		return num || list || elem
	case api.List, api.Map, api.Described:
		return num || text || elem
	case api.Array:
		return num || text
	}
	return text || list || elem
}

func isNum(v api.Value) bool {
	switch v.Kind {
	case api.Bool:
		return v.Num <= 1
	case api.Ubyte:
		return v.Num < 1<<8
	case api.Ushort:
		return v.Num < 1<<16
	case api.Uint, api.Float, api.Dec32:
		return v.Num < 1<<32
	case api.Byte:
		return v.Num == uint64(int8(v.Num))
	case api.Short:
		return v.Num == uint64(int16(v.Num))
	case api.Int:
		return v.Num == uint64(int32(v.Num))
	case api.Char:
		return v.Num <= lastCodePoint && (v.Num < firstSurrogate || v.Num > lastSurrogate)
	}
	return true
}

func isText(v api.Value) bool {
	switch v.Kind {
	case api.Dec128, api.Uuid:
		return len(v.Text) == fixedText
	case api.String:
		return octet.Utf8(v.Text) < 0
	case api.Symbol:
		return octet.Ascii(v.Text) < 0
	}
	return true
}

func isMap(v api.Value) bool {
	if len(v.List)%2 != 0 || len(v.List)/2 > api.MaxPairs {
		return false
	}
	keys := make([]api.Value, 0, len(v.List)/2)
	for at := 0; at < len(v.List); at += 2 {
		keys = append(keys, v.List[at])
	}
	// In order, keys that are the same stand side by side.
	slices.SortFunc(keys, Order)
	for at := 1; at < len(keys); at++ {
		if Equal(keys[at-1], keys[at]) {
			return false
		}
	}
	return true
}

func isArray(v api.Value) bool {
	if v.Elem <= api.Null || v.Elem >= api.Described {
		return false
	}
	for _, part := range v.List {
		if part.Kind != v.Elem {
			return false
		}
	}
	return true
}
