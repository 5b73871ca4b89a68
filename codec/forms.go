package codec

import "longshore/api"

// The constructors of values that need no data beside them.
const (
	codeTrue    = 0x41
	codeFalse   = 0x42
	codeUint0   = 0x43
	codeUlong0  = 0x44
	codeNothing = 0x45 // a list without elements
)

// A constructor's upper half says how its data stands.
const (
	layDescribed  = 0x0
	layNoData     = 0x4
	layOneByte    = 0x5 // a number; 6, 7 and 8 have twice as many bytes each
	laySixteen    = 0x9 // as many bytes, of a text
	layShortText  = 0xa
	layLongText   = 0xb
	laySmallSpan  = 0xc
	layGreatSpan  = 0xd
	laySmallArray = 0xe
	layGreatArray = 0xf
)

// How many bytes a length, a size and a count have, and the greatest one that a single byte holds.
const (
	narrow  = 1
	wide    = 4
	oneByte = 255
)

// sized has, by kinds, the constructor that takes the fewest bytes and the one that takes all, both with their data.
var sized = [...][2]byte{
	api.Null: {0x40, 0x40}, api.Bool: {0x56, 0x56},
	api.Ubyte: {0x50, 0x50}, api.Ushort: {0x60, 0x60}, api.Uint: {0x52, 0x70}, api.Ulong: {0x53, 0x80},
	api.Byte: {0x51, 0x51}, api.Short: {0x61, 0x61}, api.Int: {0x54, 0x71}, api.Long: {0x55, 0x81},
	api.Float: {0x72, 0x72}, api.Double: {0x82, 0x82},
	api.Dec32: {0x74, 0x74}, api.Dec64: {0x84, 0x84}, api.Dec128: {0x94, 0x94},
	api.Char: {0x73, 0x73}, api.Time: {0x83, 0x83}, api.Uuid: {0x98, 0x98},
	api.Binary: {0xa0, 0xb0}, api.String: {0xa1, 0xb1}, api.Symbol: {0xa3, 0xb3},
	api.List: {0xc0, 0xd0}, api.Map: {0xc1, 0xd1}, api.Array: {0xe0, 0xf0},
	api.Described: {0x00, 0x00},
}

// kindOf is the kind that a constructor is of, if it is one.
func kindOf(code byte) (int, bool) {
	switch code {
	case codeTrue, codeFalse:
		return api.Bool, true
	case codeUint0:
		return api.Uint, true
	case codeUlong0:
		return api.Ulong, true
	case codeNothing:
		return api.List, true
	}
	for kind, pair := range sized {
		if code == pair[0] || code == pair[1] {
			return kind, true
		}
	}
	return 0, false
}

func layout(code byte) byte { return code >> 4 }

// numberWidth is how many bytes a number has whose constructor lies from 50 to 8f.
func numberWidth(code byte) int { return 1 << (layout(code) - layOneByte) }

// standsInArray tells whether an array may have this constructor.
func standsInArray(code byte) bool {
	_, is := kindOf(code)
	return is && layout(code) != layNoData && layout(code) != layDescribed
}
