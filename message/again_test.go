package message_test

import (
	"bytes"
	"math"
	"slices"
	"testing"

	"longshore/api"
	"longshore/message"
	"longshore/sample"
)

// P11.4: with and without each section that is not of the bare message, and of those that are.
func TestBareOfEachSection(t *testing.T) {
	for some := range 1 << 7 {
		var ahead, bare, behind []byte
		for i, kind := range []int{112, 113, 114, 115, 116} {
			switch {
			case some>>i&1 == 0:
			case kind < 115:
				ahead = append(ahead, leanSection(kind)...)
			default:
				bare = append(bare, leanSection(kind)...)
			}
		}
		if some>>5&1 == 1 {
			behind = leanSection(120)
		}
		for _, kind := range []int{117, 118, 119} {
			body := leanSection(kind)
			if kind != 119 && some>>6 == 1 {
				body = slices.Concat(body, body, body)
			}
			b := slices.Concat(ahead, bare, body, behind)
			from, to, e := message.Bare(b)
			if from != len(ahead) || to != len(b)-len(behind) || e != api.OK {
				t.Errorf("Bare(%x): %d, %d, %d, want %d, %d", b, from, to, e, len(ahead), len(b)-len(behind))
			}
			wantReadAsModel(t, b)
		}
	}
}

// P11.4: an error comes without its place.
func TestBareOfErrors(t *testing.T) {
	for _, b := range [][]byte{nil, {}, hex("40"), hex(hi + " 40"), hex(hi + " 00 53 77 40"), hex(hi + " 00"), leanSection(112), make([]byte, 1048577)} {
		from, to, e := message.Bare(b)
		if _, _, want := message.Decode(b); from != 0 || to != 0 || e != want || e == api.OK {
			t.Errorf("Bare(%s): %d, %d, %d", briefBytes(b), from, to, e)
		}
	}
}

// counts are some that may be.
var counts = []int{0, 1, 2, 255, 256, 65536, 1<<31 - 1, 1 << 31, api.MaxWord - 1, api.MaxWord}

// P11.5: counts that may not be are refused ahead of the bytes.
func TestAgainOfCounts(t *testing.T) {
	for _, b := range [][]byte{hex(hi), encoded(modelSections(full())...), nil, hex("40"), make([]byte, 1048577)} {
		for _, count := range []int{-1, -2, math.MinInt, math.MinInt32, api.MaxWord + 1, api.MaxWord + 2, math.MaxInt, -4294967295} {
			if again, e := message.Again(b, count); e != api.ErrArg || len(again) != 0 {
				t.Errorf("Again(%s, %d): %d bytes, %d", briefBytes(b), count, len(again), e)
			}
		}
	}
	for _, b := range [][]byte{hex(hi), encoded(modelSections(full())...), hex("00 53 70 45 " + hi)} {
		for _, count := range counts {
			wantAgain(t, b, count)
			again, e := message.Again(b, count)
			if m, _, decoded := message.Decode(again); e != api.OK || decoded != api.OK || m.Header.Count != count {
				t.Errorf("Again(%x, %d): %x, %d", b, count, again, e)
			}
		}
	}
}

// P11.5: each header, with each count, in the form in which Encode writes it and in others; what stands behind it stays byte for byte.
func TestAgainOfHeaders(t *testing.T) {
	rests := [][]byte{hex(hi), encoded(modelSections(full())[1:]...), hex("00 80 00 00 00 00 00 00 00 71 d1 00 00 00 04 00 00 00 00 00 53 73 c0 03 02 40 40 00 53 75 b0 00 00 00 02 68 69 00 53 78 d1 00 00 00 04 00 00 00 00")}
	for _, durable := range []bool{false, true} {
		for _, priority := range []int{0, 4, 255} {
			for _, ttl := range []int{-1, 0, 300, api.MaxWord} {
				for _, had := range []int{0, 7, api.MaxWord} {
					h := api.Header{Has: true, Durable: durable, Priority: priority, Ttl: ttl, First: !durable, Count: had}
					plain := modelComposite(112, h, noHeader, headerFields)
					written := byName(112, sample.List(plain.List[1].List...))
					for _, rest := range rests {
						for _, count := range []int{0, 7, 300} {
							h.Count = count
							want := append(encoded(modelComposite(112, h, noHeader, headerFields)), rest...)
							for _, head := range []api.Value{plain, written} {
								b := append(encoded(head), rest...)
								if again, e := message.Again(b, count); e != api.OK || !bytes.Equal(again, want) {
									t.Errorf("Again(%x, %d): %x, %d, want %x", b, count, again, e, want)
								}
							}
						}
					}
				}
			}
		}
	}
	if again, e := message.Again(hex("00 53 70 c0 07 05 42 50 04 40 42 43 "+hi), 0); e != api.OK || !bytes.Equal(again, hex("00 53 70 45 "+hi)) {
		t.Errorf("a header that says nothing: %x, %d", again, e)
	}
}

// P11.5: without a header and with the count 0 the bytes stay, in whatever form they are.
func TestAgainOfNothing(t *testing.T) {
	for _, s := range []string{hi, "00 53 75 b0 00 00 00 02 68 69", "00 80 00 00 00 00 00 00 00 75 a0 02 68 69", "00 53 73 c0 02 01 40 " + hi, "00 53 71 d1 00 00 00 04 00 00 00 00 " + hi} {
		if again, e := message.Again(hex(s), 0); e != api.OK || !bytes.Equal(again, hex(s)) {
			t.Errorf("Again(%s, 0): %x, %d", s, again, e)
		}
		want := hex("00 53 70 c0 07 05 40 40 40 40 52 01 " + s)
		if again, e := message.Again(hex(s), 1); e != api.OK || !bytes.Equal(again, want) {
			t.Errorf("Again(%s, 1): %x, %d", s, again, e)
		}
	}
}

// P11.5: what has MaxMessage bytes is taken, and what would have one more is refused.
func TestAgainOfLengths(t *testing.T) {
	data := func(s string) api.Message { return turned(func(m *api.Message) { m.Data = []string{s} }) }
	withHeader := func(s string) api.Message { m := data(s); m.Header.Has = true; return m }
	for _, c := range []struct {
		made        func(s string) api.Message
		less, count int
		e           api.Errno
	}{
		{data, 0, 0, api.OK}, {data, 0, 1, api.ErrLong}, {data, 11, 1, api.ErrLong}, {data, 12, 1, api.OK}, {data, 12, 255, api.OK}, {data, 12, 256, api.ErrLong}, {data, 14, 256, api.ErrLong}, {data, 15, 256, api.OK}, {data, 15, api.MaxWord, api.OK},
		{withHeader, 0, 0, api.OK}, {withHeader, 0, 1, api.ErrLong}, {withHeader, 7, 1, api.ErrLong}, {withHeader, 8, 1, api.OK}, {withHeader, 10, 256, api.ErrLong}, {withHeader, 11, 256, api.OK},
	} {
		b, _ := modelEncode(fitted(1048576-c.less, c.made))
		again, e := message.Again(b, c.count)
		if len(b) != 1048576-c.less || e != c.e || e != api.OK && len(again) != 0 {
			t.Errorf("Again of %d bytes and %d: %d bytes, %d, want %d", len(b), c.count, len(again), e, c.e)
		}
		wantAgain(t, b, c.count)
	}
	longer := slices.Concat(hex("00 b3 00 00 00 15"), []byte("longshore:header:list"), hex("d0 00 00 00 0e 00 00 00 05 42 50 04 40 42 70 00 00 00 00"))
	b, _ := modelEncode(fitted(1048576-len(longer), data))
	again, e := message.Again(append(longer, b...), api.MaxWord)
	if want := append(hex("00 53 70 c0 0a 05 40 40 40 40 70 ff ff ff ff"), b...); e != api.OK || !bytes.Equal(again, want) {
		t.Errorf("a long header that gets shorter: %d bytes, %d", len(again), e)
	}
}
