package shape

import "longshore/api"

// Each composite's fields, as the chapter's list has them. A Default that is a number's 0 or false is written by its kind alone.

func openFields() []api.Field {
	return []api.Field{
		{Name: "id", Type: api.String, Must: true},
		{Name: "host", Type: api.String},
		{Name: "max-frame", Type: api.Uint, Default: api.Value{Kind: api.Uint, Num: api.MaxWord}},
		{Name: "channel-max", Type: api.Ushort, Default: api.Value{Kind: api.Ushort, Num: api.MaxChannel}},
		{Name: "idle", Type: api.Uint},
		{Name: "props", Type: api.Map},
	}
}

func beginFields() []api.Field {
	return []api.Field{
		{Name: "remote", Type: api.Ushort},
		{Name: "next-out", Type: api.Uint, Must: true},
		{Name: "in-window", Type: api.Uint, Must: true},
		{Name: "out-window", Type: api.Uint, Must: true},
		{Name: "handle-max", Type: api.Uint, Default: api.Value{Kind: api.Uint, Num: api.MaxWord}},
		{Name: "props", Type: api.Map},
	}
}

func attachFields() []api.Field {
	return []api.Field{
		{Name: "name", Type: api.String, Must: true},
		{Name: "handle", Type: api.Uint, Must: true},
		{Name: "role", Type: api.Bool, Must: true},
		{Name: "snd-mode", Type: api.Ubyte, Default: api.Value{Kind: api.Ubyte, Num: 2}},
		{Name: "rcv-mode", Type: api.Ubyte, Default: api.Value{Kind: api.Ubyte}},
		{Name: "source", Type: api.Composite, Kinds: []int{api.KSource}},
		{Name: "target", Type: api.Composite, Kinds: []int{api.KTarget, api.KCoordinator}},
		{Name: "unsettled", Type: api.Map},
		{Name: "incomplete", Type: api.Bool, Default: api.Value{Kind: api.Bool}},
		{Name: "initial-count", Type: api.Uint},
		{Name: "max-message", Type: api.Ulong},
		{Name: "props", Type: api.Map},
	}
}

func flowFields() []api.Field {
	return []api.Field{
		{Name: "next-in", Type: api.Uint},
		{Name: "in-window", Type: api.Uint, Must: true},
		{Name: "next-out", Type: api.Uint, Must: true},
		{Name: "out-window", Type: api.Uint, Must: true},
		{Name: "handle", Type: api.Uint},
		{Name: "count", Type: api.Uint},
		{Name: "credit", Type: api.Uint},
		{Name: "available", Type: api.Uint},
		{Name: "drain", Type: api.Bool, Default: api.Value{Kind: api.Bool}},
		{Name: "echo", Type: api.Bool, Default: api.Value{Kind: api.Bool}},
		{Name: "props", Type: api.Map},
	}
}

func transferFields() []api.Field {
	return []api.Field{
		{Name: "handle", Type: api.Uint, Must: true},
		{Name: "id", Type: api.Uint},
		{Name: "tag", Type: api.Binary},
		{Name: "format", Type: api.Uint},
		{Name: "settled", Type: api.Bool},
		{Name: "more", Type: api.Bool, Default: api.Value{Kind: api.Bool}},
		{Name: "state", Type: api.Composite, Kinds: states()},
		{Name: "resume", Type: api.Bool, Default: api.Value{Kind: api.Bool}},
		{Name: "aborted", Type: api.Bool, Default: api.Value{Kind: api.Bool}},
		{Name: "batchable", Type: api.Bool, Default: api.Value{Kind: api.Bool}},
	}
}

func dispositionFields() []api.Field {
	return []api.Field{
		{Name: "role", Type: api.Bool, Must: true},
		{Name: "first", Type: api.Uint, Must: true},
		{Name: "last", Type: api.Uint},
		{Name: "settled", Type: api.Bool, Default: api.Value{Kind: api.Bool}},
		{Name: "state", Type: api.Composite, Kinds: states()},
		{Name: "batchable", Type: api.Bool, Default: api.Value{Kind: api.Bool}},
	}
}

func detachFields() []api.Field {
	return []api.Field{
		{Name: "handle", Type: api.Uint, Must: true},
		{Name: "closed", Type: api.Bool, Default: api.Value{Kind: api.Bool}},
		{Name: "fault", Type: api.Composite, Kinds: []int{api.KFault}},
	}
}

func onlyFault() []api.Field {
	return []api.Field{
		{Name: "fault", Type: api.Composite, Kinds: []int{api.KFault}},
	}
}

func faultFields() []api.Field {
	return []api.Field{
		{Name: "cond", Type: api.Symbol, Must: true},
		{Name: "text", Type: api.String},
		{Name: "info", Type: api.Map},
	}
}

func receivedFields() []api.Field {
	return []api.Field{
		{Name: "section", Type: api.Uint, Must: true},
		{Name: "offset", Type: api.Ulong, Must: true},
	}
}

func noFields() []api.Field { return nil }

func modifiedFields() []api.Field {
	return []api.Field{
		{Name: "failed", Type: api.Bool},
		{Name: "elsewhere", Type: api.Bool},
		{Name: "ann", Type: api.Map},
	}
}

func sourceFields() []api.Field {
	return []api.Field{
		{Name: "address", Type: api.String},
		{Name: "durable", Type: api.Uint, Default: api.Value{Kind: api.Uint}},
		{Name: "expiry", Type: api.Symbol, Default: api.Value{Kind: api.Symbol, Text: "session-end"}},
		{Name: "timeout", Type: api.Uint, Default: api.Value{Kind: api.Uint}},
		{Name: "dynamic", Type: api.Bool, Default: api.Value{Kind: api.Bool}},
		{Name: "mode", Type: api.Symbol},
		{Name: "filter", Type: api.String},
		{Name: "default", Type: api.Composite, Kinds: outcomes()},
		{Name: "outcomes", Type: api.Symbols},
		{Name: "caps", Type: api.Symbols},
	}
}

func targetFields() []api.Field {
	return []api.Field{
		{Name: "address", Type: api.String},
		{Name: "durable", Type: api.Uint, Default: api.Value{Kind: api.Uint}},
		{Name: "expiry", Type: api.Symbol, Default: api.Value{Kind: api.Symbol, Text: "session-end"}},
		{Name: "timeout", Type: api.Uint, Default: api.Value{Kind: api.Uint}},
		{Name: "dynamic", Type: api.Bool, Default: api.Value{Kind: api.Bool}},
		{Name: "caps", Type: api.Symbols},
	}
}

func coordinatorFields() []api.Field {
	return []api.Field{
		{Name: "caps", Type: api.Symbols},
	}
}

func dischargeFields() []api.Field {
	return []api.Field{
		{Name: "txn", Type: api.Binary, Must: true},
		{Name: "fail", Type: api.Bool, Default: api.Value{Kind: api.Bool}},
	}
}

func declaredFields() []api.Field {
	return []api.Field{
		{Name: "txn", Type: api.Binary, Must: true},
	}
}

func transactionalFields() []api.Field {
	return []api.Field{
		{Name: "txn", Type: api.Binary, Must: true},
		{Name: "outcome", Type: api.Composite, Kinds: outcomes()},
	}
}

func mechanismsFields() []api.Field {
	return []api.Field{
		{Name: "mechs", Type: api.Symbols, Must: true},
	}
}

func initFields() []api.Field {
	return []api.Field{
		{Name: "mech", Type: api.Symbol, Must: true},
		{Name: "response", Type: api.Binary},
		{Name: "host", Type: api.String},
	}
}

func challengeFields() []api.Field {
	return []api.Field{
		{Name: "challenge", Type: api.Binary, Must: true},
	}
}

func responseFields() []api.Field {
	return []api.Field{
		{Name: "response", Type: api.Binary, Must: true},
	}
}

func outcomeFields() []api.Field {
	return []api.Field{
		{Name: "code", Type: api.Ubyte, Must: true},
		{Name: "data", Type: api.Binary},
	}
}

func headerFields() []api.Field {
	return []api.Field{
		{Name: "durable", Type: api.Bool, Default: api.Value{Kind: api.Bool}},
		{Name: "priority", Type: api.Ubyte, Default: api.Value{Kind: api.Ubyte, Num: 4}},
		{Name: "ttl", Type: api.Uint},
		{Name: "first", Type: api.Bool, Default: api.Value{Kind: api.Bool}},
		{Name: "count", Type: api.Uint, Default: api.Value{Kind: api.Uint}},
	}
}

func propertiesFields() []api.Field {
	return []api.Field{
		{Name: "message-id", Type: api.AnyValue},
		{Name: "user-id", Type: api.Binary},
		{Name: "to", Type: api.String},
		{Name: "subject", Type: api.String},
		{Name: "reply-to", Type: api.String},
		{Name: "correlation", Type: api.AnyValue},
		{Name: "content-type", Type: api.Symbol},
		{Name: "encoding", Type: api.Symbol},
		{Name: "expiry", Type: api.Time},
		{Name: "created", Type: api.Time},
		{Name: "group", Type: api.String},
		{Name: "sequence", Type: api.Uint},
		{Name: "reply-group", Type: api.String},
	}
}
