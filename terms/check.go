package terms

import (
	"slices"
	"strings"

	"longshore/api"
	"longshore/octet"
	"longshore/shape"
	"longshore/value"
)

const (
	maxDurable = 2
	maxMode    = 1 // copy
	condSigns  = "abcdefghijklmnopqrstuvwxyz0123456789-:"
)

func outcomes() []int {
	return []int{api.KAccepted, api.KRejected, api.KReleased, api.KModified}
}

func isFault(kind int) bool { return kind == api.KFault }

func isState(kind int) bool {
	switch kind {
	case api.KReceived, api.KDeclared, api.KTransactional:
		return true
	}
	return slices.Contains(outcomes(), kind)
}

func isTerminus(kind int) bool {
	return kind == api.KSource || kind == api.KTarget || kind == api.KCoordinator
}

func noFault(f api.Fault) bool { return sameFault(f, api.Fault{}) }

func noState(s api.State) bool { return Same(s, api.State{}) }

// stateHasMore tells whether a field that the state's kind does not have is not zero.
func stateHasMore(s api.State) bool {
	rest := s
	switch s.Kind {
	case api.KReceived:
		rest.Section, rest.Offset = 0, 0
	case api.KRejected:
		rest.Fault = api.Fault{}
	case api.KModified:
		rest.Failed, rest.Elsewhere, rest.Ann = false, false, api.Value{}
	case api.KDeclared:
		rest.Txn = ""
	case api.KTransactional:
		rest.Txn, rest.Inner = "", nil
	}
	return !Same(rest, api.State{Kind: s.Kind})
}

// terminusHasMore tells whether a field that the terminus's kind does not have is not zero.
func terminusHasMore(t api.Terminus) bool {
	node := t.Address != "" || t.Durable != 0 || t.Expiry != 0 || t.Timeout != 0 || t.Dynamic
	source := t.Mode != 0 || t.Filter != "" || !noState(t.Default) || len(t.Outcomes) > 0
	switch t.Kind {
	case api.KSource:
		return false
	case api.KTarget:
		return source
	case api.KCoordinator:
		return node || source
	}
	return node || source || len(t.Caps) > 0
}

func checkFault(f api.Fault) api.Errno {
	if !isCondition(f.Cond) || !isText(f.Text) {
		return api.ErrTerm
	}
	return checkMap(f.Info)
}

// checkState looks at what stands in the state itself, not at the fault or the outcome within.
func checkState(s api.State) api.Errno {
	switch s.Kind {
	case api.KReceived:
		if !upTo(s.Section, api.MaxWord) || s.Offset < 0 {
			return api.ErrTerm
		}
	case api.KModified:
		return checkMap(s.Ann)
	case api.KDeclared, api.KTransactional:
		if len(s.Txn) < 1 || len(s.Txn) > api.MaxTag {
			return api.ErrTerm
		}
	}
	return api.OK
}

// checkNode looks at what stands in a terminus ahead of its Default; what its kind does not have is zero, and so as it must be.
func checkNode(t api.Terminus) api.Errno {
	if !isText(t.Address) {
		return api.ErrAddress
	}
	if !upTo(t.Durable, maxDurable) || !upTo(t.Expiry, api.ExpNever) || !upTo(t.Timeout, api.MaxWord) || !upTo(t.Mode, maxMode) || !isText(t.Filter) {
		return api.ErrTerm
	}
	return api.OK
}

// checkNames looks at what stands in a terminus behind its Default.
func checkNames(t api.Terminus) api.Errno {
	for i, name := range t.Outcomes {
		if !isOutcomeName(name) || slices.Contains(t.Outcomes[:i], name) {
			return api.ErrTerm
		}
	}
	for _, name := range t.Caps {
		if !isName(name) || octet.Ascii(name) >= 0 {
			return api.ErrTerm
		}
	}
	return api.OK
}

func checkMap(v api.Value) api.Errno {
	if v.Kind != api.Null && v.Kind != api.Map {
		return api.ErrTerm
	}
	return value.Check(v)
}

func upTo(n, most int) bool { return 0 <= n && n <= most }

// isCondition asks what is left when signs are cut off at both ends: nothing, where all are signs.
func isCondition(s string) bool { return isName(s) && strings.Trim(s, condSigns) == "" }

func isName(s string) bool { return 1 <= len(s) && len(s) <= api.MaxName }

func isText(s string) bool { return len(s) <= api.MaxText && octet.Utf8(s) < 0 }

func isOutcomeName(name string) bool {
	for _, kind := range outcomes() {
		if shape.Name(kind) == name {
			return true
		}
	}
	return false
}
