package carve_test

import (
	"strings"
	"testing"

	"longshore/api"
	"longshore/carve"
	"longshore/perform"
	"longshore/sample"
)

// noTag stands for a tag that is not there.
const noTag = "-"

// turn changes a transfer.
type turn func(p *api.Perform)

// transfer is one of the handle 1 with a number (-1: none) and a tag.
func transfer(id int, tag string, turns ...turn) api.Perform {
	p := perform.Blank(api.KTransfer)
	p.Handle, p.DeliveryId = 1, id
	if tag != noTag {
		p.HasTag, p.Tag = true, tag
	}
	return turned(p, turns...)
}

// further is a transfer that says nothing of its delivery.
func further(turns ...turn) api.Perform { return transfer(-1, noTag, turns...) }

func turned(p api.Perform, turns ...turn) api.Perform {
	for _, t := range turns {
		t(&p)
	}
	return p
}

func more(p *api.Perform)          { p.More = true }
func aborted(p *api.Perform)       { p.Aborted = true }
func resumed(p *api.Perform)       { p.Resume = true }
func batched(p *api.Perform)       { p.Batchable = true }
func settled(p *api.Perform)       { p.HasSettled, p.Settled = true, true }
func unsettled(p *api.Perform)     { p.HasSettled, p.Settled = true, false }
func settledUnsaid(p *api.Perform) { p.HasSettled, p.Settled = false, true }
func withoutTag(p *api.Perform)    { p.HasTag, p.Tag = false, "" }

func kind(k int) turn         { return func(p *api.Perform) { p.Kind = k } }
func handle(n int) turn       { return func(p *api.Perform) { p.Handle = n } }
func number(n int) turn       { return func(p *api.Perform) { p.DeliveryId = n } }
func format(n int) turn       { return func(p *api.Perform) { p.Format = n } }
func lastOf(n int) turn       { return func(p *api.Perform) { p.Last = n } }
func withTag(tag string) turn { return func(p *api.Perform) { p.Tag = tag } }
func withName(s string) turn  { return func(p *api.Perform) { p.Name = s } }
func state(s api.State) turn  { return func(p *api.Perform) { p.State = s } }

// fullTransfer says all that a transfer can say, but More and Aborted.
func fullTransfer(s api.State) api.Perform {
	return transfer(9, "tag", handle(300), format(7), settled, state(s), resumed, batched)
}

// text is so many bytes that are not alike from frame to frame.
func text(n int) string {
	b := make([]byte, n)
	for i := range b {
		b[i] = byte(i*7 + i>>8 + i>>16)
	}
	return string(b)
}

func long(n int) string { return strings.Repeat("x", n) }

// annotated is a state with so many bytes in it.
func annotated(n int) api.State {
	return api.State{Kind: api.KModified, Ann: sample.Pairs(api.Value{}, sample.Text(api.Binary, long(n)))}
}

// sized is a transfer that Write makes so many bytes of: its state is as long as that takes. From 300 bytes on there is one of each length.
func sized(t *testing.T, size int, turns ...turn) api.Perform {
	t.Helper()
	p := transfer(0, long(32), turns...)
	p.State = annotated(256)
	p.State = annotated(256 + size - len(written(t, p)))
	if n := len(written(t, p)); n != size {
		t.Fatalf("a transfer of %d bytes instead of %d", n, size)
	}
	return p
}

// written is what perform.Write makes of a transfer that it takes.
func written(t *testing.T, p api.Perform) []byte {
	t.Helper()
	b, e := perform.Write(p)
	if e != api.OK {
		t.Fatalf("Write(%s): %d", told(p), e)
	}
	return b
}

// nested is a map with lists in it, so many levels deep in all.
func nested(levels int) api.Value {
	v := sample.Num(api.Uint, 7)
	for range levels - 2 {
		v = sample.List(v)
	}
	return sample.Pairs(sample.Text(api.Symbol, "k"), v)
}

var fault = api.Fault{Cond: "not-found", Text: "why", Info: nested(3)}

// states are some that may be, of each kind, with lists in them where the kind has such.
var states = []api.State{
	{}, {Kind: api.KReceived, Section: 1, Offset: 70000}, {Kind: api.KAccepted}, {Kind: api.KReleased}, {Kind: api.KRejected}, {Kind: api.KRejected, Fault: fault},
	{Kind: api.KModified, Failed: true, Elsewhere: true, Ann: nested(4)}, {Kind: api.KModified}, {Kind: api.KDeclared, Txn: "t1"}, {Kind: api.KTransactional, Txn: long(32)},
	{Kind: api.KTransactional, Txn: "t", Inner: []api.State{{Kind: api.KAccepted}}}, {Kind: api.KTransactional, Txn: "t", Inner: []api.State{{Kind: api.KRejected, Fault: fault}}}, {Kind: api.KTransactional, Txn: "t", Inner: []api.State{{Kind: api.KModified, Ann: nested(3)}}},
}

// oddStates are some that may not be; a Joiner takes them as they are.
var oddStates = []api.State{
	{Failed: true}, {Kind: -1}, {Kind: 99, Txn: long(100)}, {Section: -1}, {Offset: 1}, {Elsewhere: true}, {Txn: "t"}, {Fault: api.Fault{Text: "why"}}, {Fault: api.Fault{Info: nested(2)}}, {Ann: sample.Num(api.Null, 1)}, {Ann: sample.Text(api.Null, "a")}, {Ann: api.Value{Elem: 1}}, {Ann: sample.Pairs(api.Value{})}, {Ann: api.Value{List: []api.Value{nested(2), nested(2)}}},
	{Inner: []api.State{{}}}, {Inner: []api.State{{Inner: []api.State{{Ann: nested(3)}, {Fault: fault}}}, {Kind: api.KAccepted}}},
}

// zeros are states in which nothing is said: a list without elements says nothing.
var zeros = []api.State{
	{}, {Inner: []api.State{}}, {Inner: make([]api.State, 0, 3)}, {Ann: api.Value{List: []api.Value{}}}, {Fault: api.Fault{Info: api.Value{List: make([]api.Value, 0, 2)}}},
}

// kinds are what is no KTransfer.
var kinds = []int{api.KOpen, api.KBegin, api.KAttach, api.KFlow, api.KDisposition, api.KDetach, api.KEnd, api.KClose, 0, -1, 1, 15, 25, api.KFault, api.KAccepted, api.KSource, api.KBody, 20 + 256, 20 + 1<<32, -20}

func joiner(t *testing.T, most int) *carve.Joiner {
	t.Helper()
	j := carve.New(most)
	if j == nil {
		t.Fatalf("New(%d): nil", most)
	}
	return j
}
