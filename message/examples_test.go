package message_test

import (
	"bytes"
	"testing"

	"longshore/api"
	"longshore/message"
	"longshore/sample"
)

// The chapter's section 'Examples', row by row.

func TestExamplesOfEncode(t *testing.T) {
	m := message.Blank()
	m.Data = []string{"hi"}
	wantBytes(t, m, hex("00 53 75 a0 02 68 69"))
	h := m
	h.Header = api.Header{Has: true, Durable: true, Priority: 4, Ttl: -1}
	wantBytes(t, h, hex("00 53 70 c0 02 01 41 00 53 75 a0 02 68 69"))
}

func TestExamplesOfDecode(t *testing.T) {
	wantMessage(t, hex("00 53 75 a0 02 68 69"), plain())
	for _, c := range []struct {
		b  string
		at int
		e  api.Errno
	}{
		{"", 0, api.ErrBody},
		{"00 53 78 c1 01 00", 0, api.ErrBody},
		{"00 53 75 40", 0, api.ErrSection},
		{"00 53 75 a0 00 00 53 70 45", 5, api.ErrSection},
		{"00 53 75 a0 00 00 53 77 40", 5, api.ErrBody},
		{"40", 0, api.ErrSection},
		{"00 53 10 45", 0, api.ErrSection},
		{"00 53", 2, api.ErrShort},
		{"00 53 71 c1 05 02 a1 01 6b 40", 0, api.ErrProps},
		{"00 53 71 c1 05 02 a1 01 6b 40 00 53 75 a0 02 68 69", 0, api.ErrProps},
		{"00 53 71 c1 05 02 a1 01 6b 40 ff", 0, api.ErrProps},
	} {
		wantFault(t, hex(c.b), c.at, c.e)
	}
}

func TestExamplesOfCheck(t *testing.T) {
	wantError(t, turned(func(m *api.Message) { m.Body = api.BodyNone }), api.ErrBody)
	wantError(t, turned(func(m *api.Message) { m.Value = sample.Num(api.Bool, 1) }), api.ErrBody)
	wantError(t, turned(func(m *api.Message) { m.Header.Priority = 5 }), api.ErrProps)
	wantError(t, turned(func(m *api.Message) { m.App = sample.Pairs(text("k"), sample.List()) }), api.ErrProps)
	wantError(t, turned(func(m *api.Message) { m.DelAnn = sample.Pairs(text("k"), sample.Num(api.Int, 1)) }), api.ErrProps)
}

func TestExamplesOfBareAndAgain(t *testing.T) {
	m, _ := message.Encode(plain())
	h, _ := message.Encode(headed())
	if from, to, e := message.Bare(h); from != 7 || to != 14 || e != api.OK {
		t.Errorf("Bare: %d, %d, %d", from, to, e)
	}
	for _, c := range []struct {
		b     []byte
		count int
		want  string
		e     api.Errno
	}{
		{m, 0, hi, api.OK},
		{m, 3, "00 53 70 c0 07 05 40 40 40 40 52 03 " + hi, api.OK},
		{h, 3, "00 53 70 c0 07 05 41 40 40 40 52 03 00 53 75 a0 02 68 69", api.OK},
		{m, -1, "", api.ErrArg},
	} {
		if b, e := message.Again(c.b, c.count); !bytes.Equal(b, hex(c.want)) || e != c.e {
			t.Errorf("Again(%x, %d): %x, %d, want %s, %d", c.b, c.count, b, e, c.want, c.e)
		}
	}
}

func TestExamplesOfLookup(t *testing.T) {
	wantLookup(t, plain(), "priority", sample.Num(api.Ubyte, 4))
	wantLookup(t, plain(), "to", api.Value{})
	wantLookup(t, turned(func(m *api.Message) { m.App = sample.Pairs(text("k"), sample.Num(api.Int, 5)) }), "k", sample.Num(api.Int, 5))
}

func TestNumbers(t *testing.T) {
	for _, c := range []struct {
		name      string
		got, want int
	}{
		{"KHeader", api.KHeader, 112}, {"KDeliveryAnn", api.KDeliveryAnn, 113}, {"KMessageAnn", api.KMessageAnn, 114}, {"KProperties", api.KProperties, 115}, {"KApplication", api.KApplication, 116}, {"KData", api.KData, 117}, {"KSequence", api.KSequence, 118}, {"KBody", api.KBody, 119}, {"KFooter", api.KFooter, 120},
		{"BodyNone", api.BodyNone, 0}, {"BodyData", api.BodyData, 1}, {"BodySequence", api.BodySequence, 2}, {"BodyValue", api.BodyValue, 3},
		{"MaxWord", api.MaxWord, 4294967295}, {"MaxText", api.MaxText, 4096}, {"MaxTime", api.MaxTime, 1125899906842624}, {"MaxMessage", api.MaxMessage, 1048576}, {"MaxPairs", api.MaxPairs, 1024}, {"MaxDepth", api.MaxDepth, 32},
		{"ErrArg", int(api.ErrArg), 1}, {"ErrLong", int(api.ErrLong), 2}, {"ErrSection", int(api.ErrSection), 110}, {"ErrBody", int(api.ErrBody), 111}, {"ErrProps", int(api.ErrProps), 112},
	} {
		if c.got != c.want {
			t.Errorf("%s: %d, want %d", c.name, c.got, c.want)
		}
	}
}
