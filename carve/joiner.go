package carve

import (
	"longshore/api"
	"longshore/owned"
	"longshore/terms"
)

// Joiner puts a link's deliveries together again.
type Joiner struct {
	most       int
	unfinished *delivery // nil, if none is
}

// New makes one that takes messages of at most so many bytes.
func New(most int) *Joiner {
	if most < 0 || most > api.MaxMessage {
		return nil
	}
	return &Joiner{most: most}
}

// On takes a transfer: the delivery, whether it is whole now.
func (j *Joiner) On(p api.Perform, payload []byte) (api.Delivery, bool, api.Errno) {
	d, e := j.of(p)
	if e != api.OK {
		return api.Delivery{}, false, e
	}
	if p.Aborted {
		j.unfinished = nil
		return api.Delivery{}, false, api.OK
	}
	e = d.take(p, payload, j.most)
	if p.More {
		j.unfinished = d
		return api.Delivery{}, false, e
	}
	j.unfinished = nil
	if d.passedOver {
		return api.Delivery{}, false, e
	}
	return d.Delivery, true, api.OK
}

// of is the delivery that a transfer goes on with, or a new one that it begins.
func (j *Joiner) of(p api.Perform) (*delivery, api.Errno) {
	switch d := j.unfinished; {
	case p.Kind != api.KTransfer:
		return nil, api.ErrPerform
	case d == nil && !begins(p):
		return nil, api.ErrTag
	case d == nil:
		return &delivery{Delivery: api.Delivery{Id: p.DeliveryId, Tag: p.Tag, Format: p.Format}}, api.OK
	case !d.has(p):
		return nil, api.ErrMixed
	default:
		return d, api.OK
	}
}

// begins tells whether a transfer says what the first one of a delivery must say.
func begins(p api.Perform) bool {
	return p.DeliveryId >= 0 && p.HasTag && len(p.Tag) <= api.MaxTag
}

// Held tells whether a delivery is unfinished, and how many bytes of it there are.
func (j *Joiner) Held() (bool, int) {
	if j.unfinished == nil {
		return false, 0
	}
	return true, len(j.unfinished.Data)
}

// delivery is what has come of one. Of one that is passed over nothing is kept but by what its further transfers are known.
type delivery struct {
	api.Delivery
	passedOver bool
}

// has tells whether nothing that a further transfer says is another delivery's.
func (d *delivery) has(p api.Perform) bool {
	return (p.DeliveryId < 0 || p.DeliveryId == d.Id) && (!p.HasTag || p.Tag == d.Tag) && (p.Format < 0 || p.Format == d.Format)
}

// take lays what a transfer says, and its payload, to what has come.
func (d *delivery) take(p api.Perform, payload []byte, most int) api.Errno {
	if d.passedOver {
		return api.OK
	}
	if len(d.Data)+len(payload) > most {
		*d = delivery{Delivery: api.Delivery{Id: d.Id, Tag: d.Tag, Format: d.Format}, passedOver: true}
		return api.ErrTooMuch
	}
	d.Data = append(d.Data, payload...)
	d.Settled = d.Settled || p.HasSettled && p.Settled
	if !terms.Same(p.State, api.State{}) {
		d.State = owned.State(p.State)
	}
	return api.OK
}
