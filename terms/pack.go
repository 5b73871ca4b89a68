package terms

import "longshore/api"

// What is made here shares lists with what it is made of: shape.Pack answers a copy.

func faultFields(f api.Fault) []api.Value {
	return []api.Value{symbol(f.Cond), textIfAny(f.Text), f.Info}
}

func stateFields(s api.State) ([]api.Value, api.Errno) {
	switch s.Kind {
	case api.KReceived:
		return []api.Value{word(s.Section), {Kind: api.Ulong, Num: uint64(s.Offset)}}, api.OK
	case api.KRejected:
		fault, e := packedFault(s.Fault)
		return []api.Value{fault}, e
	case api.KModified:
		return []api.Value{trueIfSo(s.Failed), trueIfSo(s.Elsewhere), s.Ann}, api.OK
	case api.KDeclared:
		return []api.Value{binary(s.Txn)}, api.OK
	case api.KTransactional:
		inner, e := packedInner(s.Inner)
		return []api.Value{binary(s.Txn), inner}, e
	}
	return nil, api.OK
}

func packedFault(f api.Fault) (api.Value, api.Errno) {
	if noFault(f) {
		return api.Value{}, api.OK
	}
	return PackFault(f)
}

func packedInner(l []api.State) (api.Value, api.Errno) {
	if len(l) == 0 {
		return api.Value{}, api.OK
	}
	if len(l) > 1 || !Outcome(l[0]) {
		return api.Value{}, api.ErrNested
	}
	return PackState(l[0])
}

func packedDefault(s api.State) (api.Value, api.Errno) {
	if noState(s) {
		return api.Value{}, api.OK
	}
	if s.Kind != 0 && !Outcome(s) {
		return api.Value{}, api.ErrNested
	}
	return PackState(s)
}

// terminusFields are the fields of a terminus of which unsettled is the packed Default.
func terminusFields(t api.Terminus, unsettled api.Value) []api.Value {
	caps := symbols(t.Caps)
	if t.Kind == api.KCoordinator {
		return []api.Value{caps}
	}
	l := []api.Value{textIfAny(t.Address), word(t.Durable), symbol(expiries()[t.Expiry]), word(t.Timeout), {Kind: api.Bool, Num: bit(t.Dynamic)}}
	if t.Kind == api.KSource {
		l = append(l, modeIfCopy(t.Mode), textIfAny(t.Filter), unsettled, symbols(t.Outcomes))
	}
	return append(l, caps)
}

// expiries are the names of how long a terminus lives, each at its number.
func expiries() []string {
	return []string{api.ExpLink: "link-detach", api.ExpSession: "session-end", api.ExpConn: "connection-close", api.ExpNever: "never"}
}

// modes are the names of a source's modes, each at its number.
func modes() []string { return []string{"move", "copy"} }

func modeIfCopy(mode int) api.Value {
	if mode == 0 {
		return api.Value{}
	}
	return symbol(modes()[mode])
}

func trueIfSo(so bool) api.Value {
	if !so {
		return api.Value{}
	}
	return api.Value{Kind: api.Bool, Num: 1}
}

func bit(so bool) uint64 {
	if so {
		return 1
	}
	return 0
}

func word(n int) api.Value { return api.Value{Kind: api.Uint, Num: uint64(n)} }

func symbol(s string) api.Value { return api.Value{Kind: api.Symbol, Text: s} }

func binary(s string) api.Value { return api.Value{Kind: api.Binary, Text: s} }

func textIfAny(s string) api.Value {
	if s == "" {
		return api.Value{}
	}
	return api.Value{Kind: api.String, Text: s}
}

func symbols(names []string) api.Value {
	if len(names) == 0 {
		return api.Value{}
	}
	l := make([]api.Value, len(names))
	for i, name := range names {
		l[i] = symbol(name)
	}
	return api.Value{Kind: api.Array, Elem: api.Symbol, List: l}
}
