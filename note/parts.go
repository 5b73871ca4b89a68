package note

import (
	"slices"
	"strings"

	"longshore/api"
	"longshore/value"
)

// closes tells whether a sign stands next, and goes on behind it; else it goes on to the next token.
func (p *parser) closes(sign byte) bool {
	p.skip()
	if p.at == len(p.text) || p.text[p.at] != sign {
		return false
	}
	p.at++
	return true
}

// sign reads one of the signs that may stand here.
func (p *parser) sign(signs string) (byte, *fault) {
	t, f := p.take()
	if f == nil && strings.IndexByte(signs, t.kind) < 0 {
		f = misplaced(t)
	}
	return t.kind, f
}

// elements reads those of a list or an array that stands at a depth; elem is the kind that they must be of.
func (p *parser) elements(elem, depth int) ([]api.Value, *fault) {
	var list []api.Value
	for !p.closes(']') {
		place := p.at
		v, f := p.value(depth + 1)
		if f != nil {
			return nil, f
		}
		if elem != api.AnyValue && v.Kind != elem {
			return nil, &fault{place, api.ErrArray}
		}
		list = append(list, v)
	}
	return list, nil
}

// array reads the kind and the elements of an array.
func (p *parser) array(depth int) (int, []api.Value, *fault) {
	t, f := p.take()
	if f != nil {
		return 0, nil, f
	}
	elem, is := kindNamed(t)
	if !is {
		return 0, nil, &fault{t.at, api.ErrNote}
	}
	if elem == api.Null || elem == api.Described {
		return 0, nil, &fault{t.at, api.ErrArray}
	}
	t, f = p.take()
	if f != nil {
		return 0, nil, f
	}
	// No closing sign is told of here as elsewhere: nothing is open yet.
	if t.kind != '[' {
		return 0, nil, &fault{t.at, api.ErrNote}
	}
	list, f := p.elements(elem, depth)
	return elem, list, f
}

// described reads the two parts of a described value.
func (p *parser) described(depth int) ([]api.Value, *fault) {
	descriptor, f := p.value(depth + 1)
	if f != nil {
		return nil, f
	}
	v, f := p.value(depth + 1)
	if f != nil {
		return nil, f
	}
	_, f = p.sign(")")
	return []api.Value{descriptor, v}, f
}

// pairs reads those of a map that begins at a place.
func (p *parser) pairs(place, depth int) ([]api.Value, *fault) {
	if p.closes('}') {
		return nil, nil
	}
	var list []api.Value
	for next := byte(','); next == ','; {
		key, f := p.value(depth + 1)
		if f != nil {
			return nil, f
		}
		if _, f = p.sign(":"); f != nil {
			return nil, f
		}
		v, f := p.value(depth + 1)
		if f != nil {
			return nil, f
		}
		list = append(list, key, v)
		if next, f = p.sign(",}"); f != nil {
			return nil, f
		}
	}
	if !mayBePairs(list) {
		return nil, &fault{place, api.ErrMap}
	}
	return list, nil
}

// mayBePairs tells whether a map may have these pairs.
func mayBePairs(list []api.Value) bool {
	if len(list)/2 > api.MaxPairs {
		return false
	}
	var keys []api.Value
	for pair := range slices.Chunk(list, 2) {
		keys = append(keys, pair[0])
	}
	// value.Check would look again at all that stands in the keys, at each of the maps in which they stand.
	slices.SortFunc(keys, value.Order)
	return len(slices.CompactFunc(keys, value.Equal)) == len(list)/2
}
