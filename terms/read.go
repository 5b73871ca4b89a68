package terms

import (
	"slices"

	"longshore/api"
	"longshore/shape"
)

// record is a record that is asked by its fields' names; a field that its kind does not have is Null.
type record struct {
	api.Record
	table []api.Field
}

// unpacked is the record of a composite of a kind that may be here.
func unpacked(v api.Value, mayBe func(kind int) bool) (record, api.Errno) {
	r, _, e := shape.Unpack(v)
	if e != api.OK {
		return record{}, e
	}
	if !mayBe(r.Kind) {
		return record{}, api.ErrTerm
	}
	table, _ := shape.Fields(r.Kind)
	return record{r, table}, api.OK
}

func (r record) field(name string) api.Value {
	for i, f := range r.table {
		if f.Name == name {
			return r.Fields[i]
		}
	}
	return api.Value{}
}

func (r record) has(name string) bool { return r.field(name).Kind != api.Null }

func (r record) text(name string) string { return r.field(name).Text }

// number is below 0 where the value's number is 2^63 or more, so that it is refused as one that is too small.
func (r record) number(name string) int { return int(r.field(name).Num) }

func (r record) flag(name string) bool { return r.field(name).Num == 1 }

// choice is the place of a word among those that may be; below 0, if it is none of them.
func (r record) choice(name string, words []string) int {
	if !r.has(name) {
		return 0
	}
	return slices.Index(words, r.text(name))
}

func (r record) texts(name string) []string {
	var l []string
	for _, v := range r.field(name).List {
		l = append(l, v.Text)
	}
	return l
}

// outcome is the state within, or a zero one where there is none.
func (r record) outcome(name string) (api.State, api.Errno) {
	if !r.has(name) {
		return api.State{}, api.OK
	}
	return ReadState(r.field(name))
}

type faultReader struct{ record }

func (r faultReader) read() (api.Fault, api.Errno) {
	f := api.Fault{Cond: r.text("cond"), Text: r.text("text"), Info: r.field("info")}
	if e := checkFault(f); e != api.OK {
		return api.Fault{}, e
	}
	return f, api.OK
}

type stateReader struct{ record }

func (r stateReader) read() (api.State, api.Errno) {
	s := api.State{
		Kind:      r.Kind,
		Section:   r.number("section"),
		Offset:    r.number("offset"),
		Failed:    r.flag("failed"),
		Elsewhere: r.flag("elsewhere"),
		Ann:       r.field("ann"),
		Txn:       r.text("txn"),
	}
	e := checkState(s)
	if e == api.OK {
		s.Fault, e = r.fault()
	}
	if e == api.OK {
		s.Inner, e = r.inner()
	}
	if e != api.OK {
		return api.State{}, e
	}
	return s, api.OK
}

// fault is the one that is there: one without a condition is a fault as well, and refused.
func (r stateReader) fault() (api.Fault, api.Errno) {
	if !r.has("fault") {
		return api.Fault{}, api.OK
	}
	return ReadFault(r.field("fault"))
}

func (r stateReader) inner() ([]api.State, api.Errno) {
	s, e := r.outcome("outcome")
	if e != api.OK || s.Kind == 0 {
		return nil, e
	}
	return []api.State{s}, api.OK
}

type terminusReader struct{ record }

func (r terminusReader) read() (api.Terminus, api.Errno) {
	t := api.Terminus{
		Kind:     r.Kind,
		Address:  r.text("address"),
		Durable:  r.number("durable"),
		Expiry:   r.choice("expiry", expiries()),
		Timeout:  r.number("timeout"),
		Dynamic:  r.flag("dynamic"),
		Mode:     r.choice("mode", modes()),
		Filter:   r.text("filter"),
		Outcomes: r.texts("outcomes"),
		Caps:     r.texts("caps"),
	}
	e := checkNode(t)
	if e == api.OK {
		t.Default, e = r.outcome("default")
	}
	if e == api.OK {
		e = checkNames(t)
	}
	if e != api.OK {
		return api.Terminus{}, e
	}
	return t, api.OK
}
