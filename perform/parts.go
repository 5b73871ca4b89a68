package perform

import (
	"slices"

	"longshore/api"
	"longshore/terms"
)

// terminus is a source or a target: none, or one of these kinds.
func terminus(at place[api.Terminus], kinds ...int) field {
	pack := func(t api.Terminus) (api.Value, api.Errno) {
		v, e := terms.PackTerminus(t)
		if e == api.OK && t.Kind != 0 && !slices.Contains(kinds, t.Kind) {
			return api.Value{}, api.ErrField
		}
		return v, e
	}
	return standing(at, api.Terminus{}, pack, terms.ReadTerminus)
}

func state() field { return standing(atState, api.State{}, packState, terms.ReadState) }

func packState(s api.State) (api.Value, api.Errno) {
	if terms.Same(s, api.State{}) {
		return api.Value{}, api.OK
	}
	return terms.PackState(s)
}

func fault() field { return standing(atFault, api.Fault{}, packFault, terms.ReadFault) }

func packFault(f api.Fault) (api.Value, api.Errno) {
	if sameFault(f, api.Fault{}) {
		return api.Value{}, api.OK
	}
	return terms.PackFault(f)
}

func unsettled() field { return standing(atUnsettled, nil, packUnsettled, readUnsettled) }

func packUnsettled(l []api.Unsettled) (api.Value, api.Errno) {
	if len(l) == 0 {
		return api.Value{}, api.OK
	}
	if len(l) > api.MaxPairs {
		return api.Value{}, api.ErrMap
	}
	pairs := api.Value{Kind: api.Map}
	seen := map[string]struct{}{}
	for _, u := range l {
		key, e := packTag(u.Tag)
		if e != api.OK {
			return api.Value{}, e
		}
		if _, twice := seen[u.Tag]; twice {
			return api.Value{}, api.ErrMap
		}
		seen[u.Tag] = struct{}{}
		said, e := packState(u.State)
		if e != api.OK {
			return api.Value{}, e
		}
		pairs.List = append(pairs.List, key, said)
	}
	return pairs, api.OK
}

func readUnsettled(v api.Value) ([]api.Unsettled, api.Errno) {
	var l []api.Unsettled
	for pair := range slices.Chunk(v.List, 2) {
		u, e := readPair(pair[0], pair[1])
		if e != api.OK {
			return nil, e
		}
		l = append(l, u)
	}
	return l, api.OK
}

func readPair(key, said api.Value) (api.Unsettled, api.Errno) {
	if key.Kind != api.Binary {
		return api.Unsettled{}, api.ErrField
	}
	tag, e := readTag(key)
	if e != api.OK || said.Kind == api.Null {
		return api.Unsettled{Tag: tag}, e
	}
	s, e := terms.ReadState(said)
	return api.Unsettled{Tag: tag, State: s}, e
}
