package value_test

import (
	"math"
	"testing"

	"longshore/api"
	"longshore/value"
)

// The chapter's section 'Examples', row by row.

func TestExamplesOfCheck(t *testing.T) {
	k, v, w := text(api.String, "k"), num(api.Uint, 1), num(api.Uint, 2)
	wantCheck(t, api.Value{}, api.OK)
	wantCheck(t, num(api.Bool, 1), api.OK)
	wantCheck(t, num(api.Bool, 2), api.ErrNum)

	wantCheck(t, num(api.Byte, 18446744073709551488), api.OK)
	wantCheck(t, num(api.Byte, 128), api.ErrNum)
	wantCheck(t, num(api.Byte, 127), api.OK)

	wantCheck(t, num(api.Char, 55296), api.ErrNum)
	wantCheck(t, num(api.Char, 1114111), api.OK)
	wantCheck(t, num(api.Char, 1114112), api.ErrNum)

	wantCheck(t, text(api.String, "a\xff"), api.ErrText)
	wantCheck(t, text(api.Binary, "a\xff"), api.OK)
	wantCheck(t, text(api.Symbol, "a\xff"), api.ErrText)

	wantCheck(t, num(api.Null, 1), api.ErrExtra)
	wantCheck(t, num(25, 1), api.ErrKind)
	wantCheck(t, num(-1, 0), api.ErrKind)

	wantCheck(t, value.Mapped(k), api.ErrMap)
	wantCheck(t, value.Mapped(k, v, k, w), api.ErrMap)
	wantCheck(t, value.Mapped(num(api.Float, 0), v, num(api.Float, 2147483648), w), api.OK)

	wantCheck(t, array(api.Null), api.ErrArray)
	wantCheck(t, array(api.Uint), api.OK)
	wantCheck(t, array(api.Uint, num(api.Int, 1)), api.ErrArray)

	wantCheck(t, described(v), api.ErrParts)

	wantCheck(t, value.Listed(num(30, 0), num(api.Bool, 2)), api.ErrKind)
	wantCheck(t, value.Mapped(num(30, 0), v, num(30, 0), v), api.ErrMap)

	wantCheck(t, within(31, list()), api.OK)
	wantCheck(t, within(32, list()), api.ErrDeep)
}

func TestExamplesOfOrder(t *testing.T) {
	x, y := num(api.Uint, 1), num(api.Uint, 2)
	wantOrder(t, num(api.Int, 5), num(api.Uint, 9), 1)
	wantOrder(t, num(api.Int, math.MaxUint64), num(api.Int, 0), 1)
	wantOrder(t, value.Listed(x), value.Listed(x, y), -1)
	wantOrder(t, text(api.Binary, "ab"), text(api.Binary, "b"), -1)
}

func TestExamplesOfParts(t *testing.T) {
	k, l, v, w := text(api.String, "k"), text(api.String, "l"), num(api.Uint, 1), num(api.Uint, 2)
	x, y := num(api.Uint, 1), num(api.Uint, 2)
	if one, two := value.Depth(value.Listed()), value.Depth(value.Listed(value.Listed(), x)); one != 1 || two != 2 {
		t.Errorf("Depth: %d, %d, want 1, 2", one, two)
	}
	wantFind(t, value.Mapped(k, v, l, w), l, w, true)
	wantFind(t, value.Listed(k, v), k, api.Value{}, false)
	whole := value.Listed(x, value.Listed(y))
	wantTold(t, value.All(whole), []told{{1, whole}, {2, x}, {2, value.Listed(y)}, {3, y}})
}
