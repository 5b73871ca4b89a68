// Package owned lays what was handed in, or what is kept, into new memory: whoever has the one may change its lists, and the other stays.
package owned

import (
	"longshore/api"
	"longshore/value"
)

// Fault is a fault in memory of its own.
func Fault(f api.Fault) api.Fault {
	f.Info = Value(f.Info)
	return f
}

// State is a state in memory of its own.
func State(s api.State) api.State {
	s.Fault = Fault(s.Fault)
	s.Ann = Value(s.Ann)
	s.Inner = states(s.Inner)
	return s
}

func states(l []api.State) []api.State {
	if len(l) == 0 {
		// Not an empty piece of the list that came in: it would share that list's spare room.
		return nil
	}
	list := make([]api.State, len(l))
	for i, s := range l {
		list[i] = State(s)
	}
	return list
}

// Value is a value in memory of its own.
func Value(v api.Value) api.Value { return value.Listed(v).List[0] }
