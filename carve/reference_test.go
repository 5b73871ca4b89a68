package carve_test

import (
	"bytes"
	"encoding/binary"
	"fmt"
	"reflect"
	"strings"

	"longshore/api"
	"longshore/codec"
	"longshore/terms"
)

// A second way to what the chapter says: frames byte by byte, and a Joiner that keeps all transfers and works all out of them anew.

const null = "\x40"

func modelNumber(n int) string {
	switch {
	case n < 0:
		return null
	case n == 0:
		return "\x43"
	case n < 256:
		return "\x52" + string([]byte{byte(n)})
	}
	return "\x70" + word(n)
}

func word(n int) string { return string(binary.BigEndian.AppendUint32(nil, uint32(n))) }

func modelTruth(so bool) string {
	if so {
		return "\x41"
	}
	return null
}

func modelState(s api.State) string {
	if isZero(s) {
		return null
	}
	v, e := terms.PackState(s)
	b, e2 := codec.Encode(v)
	if e != api.OK || e2 != api.OK {
		panic(fmt.Sprint("a state that may not be: ", e, e2))
	}
	return string(b)
}

// modelWrite are the bytes of a transfer that may be.
func modelWrite(p api.Perform) string {
	tag, said := null, null
	if p.HasTag {
		tag = "\xa0" + string([]byte{byte(len(p.Tag))}) + p.Tag
	}
	if p.HasSettled {
		said = "\x42"
	}
	if p.Settled {
		said = "\x41"
	}
	fields := []string{modelNumber(p.Handle), modelNumber(p.DeliveryId), tag, modelNumber(p.Format), said, modelTruth(p.More), modelState(p.State), modelTruth(p.Resume), modelTruth(p.Aborted), modelTruth(p.Batchable)}
	for fields[len(fields)-1] == null {
		fields = fields[:len(fields)-1]
	}
	parts := strings.Join(fields, "")
	if len(parts) < 255 {
		return "\x00\x53\x14\xc0" + string([]byte{byte(len(parts) + 1), byte(len(fields))}) + parts
	}
	return "\x00\x53\x14\xd0" + word(len(parts)+4) + word(len(fields)) + parts
}

func modelFrame(channel int, body string) string {
	return word(8+len(body)) + "\x02\x00" + word(channel)[2:] + body
}

// modelFurther is the transfer of a further frame.
func modelFurther(p api.Perform) api.Perform {
	return api.Perform{Kind: api.KTransfer, Handle: p.Handle, DeliveryId: -1, Format: -1, More: p.More}
}

// modelSplit are the frames of a transfer that may be, with a payload that is not too long. How much fits is found by trying.
func modelSplit(p api.Perform, channel int, payload string, most int) ([]string, api.Errno) {
	var frames []string
	for {
		fits := func(p api.Perform, n int) bool { return len(modelWrite(p))+n <= most-8 }
		if fits(p, len(payload)) {
			return append(frames, modelFrame(channel, modelWrite(p)+payload)), api.OK
		}
		last := p.More
		p.More = true
		n := 0
		for head := len(modelWrite(p)); 8+head+n+1 <= most; {
			n++
		}
		if n == 0 {
			return nil, api.ErrRoom
		}
		frames = append(frames, modelFrame(channel, modelWrite(p)+payload[:n]))
		p.More = last
		p, payload = modelFurther(p), payload[n:]
	}
}

// came is a transfer that came, with its payload.
type came struct {
	p       api.Perform
	payload string
}

// modelJoiner has the transfers of the unfinished delivery.
type modelJoiner struct {
	most int
	all  []came
}

func (m *modelJoiner) on(p api.Perform, payload string) (api.Delivery, bool, api.Errno) {
	if e := m.fault(p); e != api.OK {
		return api.Delivery{}, false, e
	}
	if p.Aborted {
		m.all = nil
		return api.Delivery{}, false, api.OK
	}
	before := m.isOver()
	m.all = append(m.all, came{p, payload})
	d, over, e := m.delivery(), m.isOver(), api.OK
	if over && !before {
		e = api.ErrTooMuch
	}
	if !p.More {
		m.all = nil
	}
	if p.More || over {
		return api.Delivery{}, false, e
	}
	return d, true, api.OK
}

func (m *modelJoiner) fault(p api.Perform) api.Errno {
	if p.Kind != 20 {
		return api.ErrPerform
	}
	if len(m.all) == 0 {
		if p.DeliveryId >= 0 && p.HasTag && len(p.Tag) <= 32 {
			return api.OK
		}
		return api.ErrTag
	}
	first := m.all[0].p
	if p.DeliveryId >= 0 && p.DeliveryId != first.DeliveryId {
		return api.ErrMixed
	}
	if p.HasTag && p.Tag != first.Tag {
		return api.ErrMixed
	}
	if p.Format >= 0 && p.Format != first.Format {
		return api.ErrMixed
	}
	return api.OK
}

func (m *modelJoiner) bytes() string {
	var b strings.Builder
	for _, c := range m.all {
		b.WriteString(c.payload)
	}
	return b.String()
}

func (m *modelJoiner) isOver() bool { return len(m.bytes()) > m.most }

func (m *modelJoiner) held() (bool, int) {
	if m.isOver() {
		return true, 0
	}
	return len(m.all) > 0, len(m.bytes())
}

func (m *modelJoiner) delivery() api.Delivery {
	first := m.all[0].p
	d := api.Delivery{Id: first.DeliveryId, Tag: first.Tag, Format: first.Format, Data: []byte(m.bytes())}
	for _, c := range m.all {
		if c.p.HasSettled && c.p.Settled {
			d.Settled = true
		}
		if !isZero(c.p.State) {
			d.State = c.p.State
		}
	}
	return d
}

// isZero, alike and told take nil and an empty list as the same.
func isZero(s api.State) bool { return alike(s, api.State{}) }

func alike[T any](a, b T) bool { return reflect.DeepEqual(plain(a), plain(b)) }

func told[T any](x T) string { return brief(fmt.Sprintf("%+v", plain(x))) }

func brief(s string) string {
	if len(s) > 600 {
		return s[:600] + ".."
	}
	return s
}

// plain is a copy in which no list is empty but nil, and none has room behind it.
func plain[T any](x T) T { return plainOf(reflect.ValueOf(x)).Interface().(T) }

func plainOf(v reflect.Value) reflect.Value {
	c := reflect.New(v.Type()).Elem()
	switch {
	case v.Kind() == reflect.Struct:
		for i := range v.NumField() {
			c.Field(i).Set(plainOf(v.Field(i)))
		}
	case v.Kind() == reflect.Slice && v.Len() > 0 && v.Type().Elem().Kind() == reflect.Uint8:
		c.SetBytes(bytes.Clone(v.Bytes()))
	case v.Kind() == reflect.Slice && v.Len() > 0:
		c.Set(reflect.MakeSlice(v.Type(), v.Len(), v.Len()))
		for i := range v.Len() {
			c.Index(i).Set(plainOf(v.Index(i)))
		}
	case v.Kind() != reflect.Slice:
		c.Set(v)
	}
	return c
}
