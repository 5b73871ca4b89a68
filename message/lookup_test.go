package message_test

import (
	"maps"
	"math"
	"slices"
	"testing"

	"longshore/api"
	"longshore/message"
	"longshore/sample"
)

// P11.6: each name of the header's and the properties' parts, of a message in which nothing is said, and of one that says all.
func TestLookupOfParts(t *testing.T) {
	for name, want := range map[string][2]api.Value{
		"priority":     {sample.Num(api.Ubyte, 4), sample.Num(api.Ubyte, 9)},
		"durable":      {sample.Num(api.Bool, 0), sample.Num(api.Bool, 1)},
		"first":        {sample.Num(api.Bool, 0), sample.Num(api.Bool, 1)},
		"ttl":          {{}, sample.Num(api.Uint, 1000)},
		"count":        {sample.Num(api.Uint, 0), sample.Num(api.Uint, 2)},
		"id":           {{}, sample.Num(api.Ulong, 5)},
		"correlation":  {{}, text("c")},
		"user":         {{}, octets("\xff")},
		"to":           {{}, text("queue/q")},
		"subject":      {{}, text("é")},
		"reply-to":     {{}, text("queue/r")},
		"group":        {{}, text("g")},
		"content-type": {{}, symbol("text/plain")},
		"sequence":     {{}, sample.Num(api.Uint, 3)},
	} {
		wantLookup(t, plain(), name, want[0])
		wantLookup(t, message.Blank(), name, want[0])
		wantLookup(t, full(), name, want[1])
		without := full()
		without.Header.Has, without.Properties.Has = false, false
		wantLookup(t, without, name, want[1])
		// The part comes ahead of an application property of that name, also where there is no part.
		wantLookup(t, with(plain(), "App", sample.Pairs(text(name), text("other"))), name, want[0])
	}
}

// P11.6: numbers as great and as small as there are, of any message.
func TestLookupOfNumbers(t *testing.T) {
	for _, n := range []int{math.MinInt, -1 << 40, -4294967297, -4294967296, -4294967295, -257, -256, -255, -2, -1, 0, 1, 255, 256, 257, 511, api.MaxWord, api.MaxWord + 1, api.MaxWord + 2, api.MaxTime, math.MaxInt} {
		m := turned(func(m *api.Message) {
			m.Header.Priority, m.Header.Ttl, m.Header.Count, m.Properties.Sequence = n, n, n, n
		})
		low := uint64(n) % (1 << 32)
		wantLookup(t, m, "priority", sample.Num(api.Ubyte, low%256))
		wantLookup(t, m, "count", sample.Num(api.Uint, low))
		want := sample.Num(api.Uint, low)
		if n < 0 {
			want = api.Value{}
		}
		wantLookup(t, m, "ttl", want)
		wantLookup(t, m, "sequence", want)
	}
	wantLookup(t, turned(func(m *api.Message) { m.Header.Priority = -1 }), "priority", sample.Num(api.Ubyte, 255))
	wantLookup(t, turned(func(m *api.Message) { m.Header.Count = -1 }), "count", sample.Num(api.Uint, 4294967295))
	wantLookup(t, turned(func(m *api.Message) { m.Header.Ttl = 4294967297 }), "ttl", sample.Num(api.Uint, 1))
	wantLookup(t, api.Message{}, "priority", sample.Num(api.Ubyte, 0))
	wantLookup(t, api.Message{}, "ttl", sample.Num(api.Uint, 0))
	wantLookup(t, api.Message{}, "sequence", sample.Num(api.Uint, 0))
}

// P11.6: texts and ids of messages that may be, and of such as may not.
func TestLookupOfTexts(t *testing.T) {
	for _, s := range []string{"", "a", "\xff", "\x80", long(4096), long(4097), "\x00"} {
		m := said(func(p *api.Properties) {
			p.UserId, p.To, p.Subject, p.ReplyTo, p.Group, p.ContentType = s, s, s, s, s, s
		})
		for name, kind := range map[string]int{"user": api.Binary, "to": api.String, "subject": api.String, "reply-to": api.String, "group": api.String, "content-type": api.Symbol} {
			want := sample.Text(kind, s)
			if s == "" {
				want = api.Value{}
			}
			wantLookup(t, m, name, want)
		}
	}
	for _, id := range append(append([]any{}, goodIds...), badIds...) {
		v := id.(api.Value)
		wantLookup(t, said(func(p *api.Properties) { p.MessageId = v }), "id", v)
		wantLookup(t, said(func(p *api.Properties) { p.Correlation = v }), "correlation", v)
		wantLookup(t, said(func(p *api.Properties) { p.MessageId = v }), "correlation", api.Value{})
	}
}

// P11.6: all other names are looked up in the application properties, those of other parts too.
func TestLookupOfOthers(t *testing.T) {
	for _, name := range []string{"", "k", "é", "\xff", "Priority", "PRIORITY", "priority ", "encoding", "expiry", "created", "reply-group", "replyto", "reply_to", "message-id", "user-id", "content", "content-type ", "body", "footer", "header", "ids", "sequences", long(4096)} {
		wantLookup(t, full(), name, map[string]api.Value{"k": sample.Num(api.Int, 5)}[name])
		wantLookup(t, plain(), name, api.Value{})
		wantLookup(t, api.Message{}, name, api.Value{})
		for _, v := range append(ofEachKind(), api.Value{}, sample.Num(25, 1), sample.Pairs(text("odd"))) {
			wantLookup(t, with(full(), "App", sample.Pairs(text("a"), text("b"), text(name), v)), name, v)
		}
		wantLookup(t, with(plain(), "App", sample.Pairs(text(name), symbol("first"), text(name), symbol("second"))), name, symbol("first"))
		wantLookup(t, with(plain(), "App", sample.Pairs(symbol(name), text("a"), octets(name), text("a"), text("other"), text("a"))), name, api.Value{})
		wantLookup(t, with(plain(), "App", sample.Pairs(text(name))), name, api.Value{})
		wantLookup(t, with(plain(), "App", sample.Pairs(text("a"), text(name), text(name))), name, api.Value{})
		wantLookup(t, with(plain(), "App", sample.List(text(name), text("a"))), name, api.Value{})
		wantLookup(t, with(plain(), "App", sample.Pairs(api.Value{}, text("null"), text("other"), text("a"))), name, api.Value{})
		for _, part := range []string{"DelAnn", "MsgAnn", "Footer", "Value"} {
			wantLookup(t, with(plain(), part, sample.Pairs(text(name), text("a"))), name, api.Value{})
		}
	}
}

// P11.6: messages as they may be and with faults, all names, against the second program.
func TestChancesOfLookup(t *testing.T) {
	names := append(slices.Sorted(maps.Keys(lookups)), "", "k", "a", "0", "encoding", "expiry", "é")
	for _, wrong := range []int{0, 20, 4} {
		c := chances(int64(180+wrong), wrong)
		for range 1000 {
			m := c.message()
			for _, name := range names {
				wantLookup(t, m, name, modelLookup(m, name))
			}
			if t.Failed() {
				return
			}
		}
	}
}
