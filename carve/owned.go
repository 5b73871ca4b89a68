package carve

import (
	"longshore/api"
	"longshore/value"
)

// ownedState is a state in memory of its own: whoever handed it in may change its lists.
func ownedState(s api.State) api.State {
	s.Fault.Info = owned(s.Fault.Info)
	s.Ann = owned(s.Ann)
	s.Inner = ownedStates(s.Inner)
	return s
}

func ownedStates(l []api.State) []api.State {
	if len(l) == 0 {
		// Not an empty piece of the list that came in: it would share that list's spare room.
		return nil
	}
	list := make([]api.State, len(l))
	for i, s := range l {
		list[i] = ownedState(s)
	}
	return list
}

func owned(v api.Value) api.Value { return value.Listed(v).List[0] }
