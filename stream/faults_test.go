package stream_test

import (
	"bytes"
	"testing"

	"longshore/api"
	"longshore/stream"
)

// ahead makes streams that have taken bytes.
func ahead(most int, b []byte) func() *stream.Stream {
	return func() *stream.Stream { return behind(most, b) }
}

// P6.1: limits at their ends, and those beyond; a new stream has taken nothing.
func TestNew(t *testing.T) {
	for _, most := range append([]int{511, api.MaxFrame + 1}, extremes...) {
		if stream.New(most) != nil {
			t.Errorf("New(%d) is a stream", most)
		}
	}
	for _, most := range []int{512, 513, 1000, 65535, api.MaxFrame - 1, api.MaxFrame} {
		s := stream.New(most)
		if s == nil {
			t.Fatalf("New(%d) is no stream", most)
		}
		wantState(t, s, api.StreamState{Header: true})
		wantFault(t, ahead(most, mainHeader), headed(uint32(most+1), 2, 0, 5, 3), 4, api.ErrSize)
		feed(s, mainHeader)
		b, i := sealed(api.Frame{Channel: 5, Body: filled(most-8, 3)})
		wantTake(t, s, b, i, most)
	}
}

// P6.2: each byte at each place of a header: what is the beginning of none is known with that byte, at the stream's beginning as well as behind frames.
func TestFaultsOfHeaders(t *testing.T) {
	later := func() *stream.Stream {
		s := behind(512, hexed("H F F"))
		s.Expect()
		return s
	}
	for _, made := range []func() *stream.Stream{ahead(512, nil), later} {
		for _, whole := range [][]byte{mainHeader, guardHeader} {
			for i := range 8 {
				for c := range 256 {
					b := bytes.Clone(whole)
					b[i] = byte(c)
					if bytes.Equal(b[:i+1], mainHeader[:i+1]) || bytes.Equal(b[:i+1], guardHeader[:i+1]) {
						continue
					}
					wantFault(t, made, b, i+1, api.ErrProto)
				}
			}
		}
	}
}

// P6.2: a header is whole with its eighth byte, and not ahead of it.
func TestWholeHeaders(t *testing.T) {
	for _, taken := range []string{"", "H", "G", "H F F", "G 00 00 00 08 02 01 00 00"} {
		for n, b := range map[int][]byte{0: mainHeader, 3: guardHeader} {
			s := behind(512, hexed(taken))
			s.Expect()
			wantWhole(t, s, b, proto(n))
		}
	}
}

// P6.2: sizes at their ends, and those beyond; none is known ahead of the fourth byte.
func TestFaultsOfSizes(t *testing.T) {
	for kind, header := range [][]byte{mainHeader, guardHeader} {
		for _, most := range []int{512, 513, 1000, 65535, 65536, api.MaxFrame - 1, api.MaxFrame} {
			made := ahead(most, header)
			for _, size := range []int{0, 1, 2, 6, 7, most + 1, most + 2, 2 * api.MaxFrame, 1 << 24, 1<<24 + 8, 1<<31 - 1, 1 << 31, 1<<31 + 8, 1<<32 - 8, 1<<32 - 1} {
				wantFault(t, made, headed(uint32(size), 2, 0, 5, 8), 4, api.ErrSize)
			}
			for _, size := range []int{8, 9, 255, 256, most - 1, most} {
				wantHeld(t, made(), headed(uint32(size), 2, byte(kind), 5, 0)[:7])
			}
		}
	}
}

// P6.2: the limit counts as it is when the fourth byte is taken: one that is said ahead of it holds, one that is said behind it doesn't.
func TestLimitsAtTheFourthByte(t *testing.T) {
	for _, size := range []int{512, 513, 1000, 4096} {
		b, whole := sealed(api.Frame{Channel: 7, Body: filled(size-8, 1)})
		for n := range 10 {
			s := behind(api.MaxFrame, joined(mainHeader, b[:n]))
			wantErr(t, "Most(512)", s.Most(512), api.OK)
			if n < 4 && size > 512 {
				wantTake(t, s, b[n:], api.Item{}, len(b)-n)
				wantState(t, s, api.StreamState{Taken: 12, At: 8, Err: api.ErrSize})
				continue
			}
			wantTake(t, s, b[n:], whole, len(b)-n)
			wantHeld(t, s, hexed("00 00 02"))
			wantTake(t, s, hexed("01"), api.Item{}, 1)
			wantState(t, s, api.StreamState{Taken: 8 + size + 4, At: 8 + size, Err: api.ErrSize})
		}
	}
}

// P6.2: a limit that is raised counts just so.
func TestLimitsThatAreRaised(t *testing.T) {
	b, whole := sealed(api.Frame{Channel: 7, Body: filled(1000, 1)})
	for n := range 4 {
		s := behind(512, joined(mainHeader, b[:n]))
		wantErr(t, "Most(1008)", s.Most(1008), api.OK)
		wantTake(t, s, b[n:], whole, len(b)-n)
		s = behind(512, joined(mainHeader, b[:n]))
		wantErr(t, "Most(1007)", s.Most(1007), api.OK)
		wantTake(t, s, b[n:], api.Item{}, len(b)-n)
		wantState(t, s, api.StreamState{Taken: 12, At: 8, Err: api.ErrSize})
	}
	s := behind(512, joined(mainHeader, b[:4]))
	wantErr(t, "Most of a closed stream", s.Most(1008), api.ErrState)
	wantState(t, s, api.StreamState{Taken: 12, At: 8, Err: api.ErrSize})
}

// P6.2: each offset, with sizes from the least that holds it down and up; none is known ahead of the fifth byte.
func TestFaultsOfOffsets(t *testing.T) {
	for offset := range 256 {
		for _, size := range []int{8, 9, 11, 12, 4*offset - 1, 4 * offset, 4*offset + 1, 4*offset + 3, 4*offset + 4, 1024} {
			if size < 8 {
				continue
			}
			b := headed(uint32(size), byte(offset), 0, 5, size-8)
			if offset < 2 || 4*offset > size {
				wantFault(t, ahead(1024, mainHeader), b, 5, api.ErrOffset)
				continue
			}
			i := api.Item{Kind: api.ItemFrame, Frame: api.Frame{Channel: 5, Ext: b[8 : 4*offset], Body: b[4*offset:]}}
			wantWhole(t, behind(1024, mainHeader), b, i)
		}
	}
}

// P6.2: each type behind each header; none is known ahead of the sixth byte.
func TestFaultsOfTypes(t *testing.T) {
	for kind := range 256 {
		b := headed(13, 3, byte(kind), 0x1234, 5)
		i := api.Item{Kind: api.ItemFrame, Frame: api.Frame{Type: kind, Ext: b[8:12], Body: b[12:]}}
		switch kind {
		case 0:
			i.Frame.Channel = 0x1234
			wantWhole(t, behind(512, mainHeader), b, i)
			wantFault(t, ahead(512, guardHeader), b, 6, api.ErrOrder)
		case 1:
			wantWhole(t, behind(512, guardHeader), b, i)
			wantFault(t, ahead(512, mainHeader), b, 6, api.ErrOrder)
		default:
			wantFault(t, ahead(512, mainHeader), b, 6, api.ErrType)
			wantFault(t, ahead(512, guardHeader), b, 6, api.ErrType)
		}
	}
}

// 'Words': it is the last header that says which type may come, however often it changes.
func TestTypesBehindHeaders(t *testing.T) {
	main, mainFrame := sealed(api.Frame{Channel: 5, Body: []byte("a")})
	guard, guardFrame := sealed(api.Frame{Type: api.FrameGuard, Body: []byte("b")})
	turns := func(n int) *stream.Stream {
		s := stream.New(512)
		for i := range n {
			if i > 0 {
				wantErr(t, "Expect()", s.Expect(), api.OK)
			}
			if i%2 == 0 {
				wantItems(t, feed(s, joined(guardHeader, guard, guard)), proto(3), guardFrame, guardFrame)
				continue
			}
			wantItems(t, feed(s, joined(mainHeader, main, main)), proto(0), mainFrame, mainFrame)
		}
		return s
	}
	wantFault(t, func() *stream.Stream { return turns(5) }, main, 6, api.ErrOrder)
	wantFault(t, func() *stream.Stream { return turns(6) }, guard, 6, api.ErrOrder)
}

// P6.2: a header where a frame must come is known with its fourth byte; what is nearly one is a size.
func TestHeadersWhereFramesMustCome(t *testing.T) {
	for _, taken := range []string{"H", "G", "H F", "H F F", "G 00 00 00 08 02 01 00 00"} {
		for _, b := range []string{"H", "G", "4C 53 48 52", "4C 53 48 52 FF FF"} {
			wantFault(t, ahead(512, hexed(taken)), hexed(b), 4, api.ErrOrder)
			wantFault(t, ahead(api.MaxFrame, hexed(taken)), hexed(b), 4, api.ErrOrder)
		}
		for _, b := range []string{"4D 53 48 52", "4C 54 48 52", "4C 53 49 52", "4C 53 48 53", "4C 53 48 51 00 01 00 00", "52 48 53 4C"} {
			wantFault(t, ahead(api.MaxFrame, hexed(taken)), hexed(b), 4, api.ErrSize)
		}
	}
}

// P6.2: behind Expect a frame is no header.
func TestFramesWhereHeadersMustCome(t *testing.T) {
	made := func() *stream.Stream {
		s := behind(512, hexed("H F"))
		s.Expect()
		return s
	}
	wantFault(t, made, exampleData, 1, api.ErrProto)
	wantFault(t, ahead(512, nil), exampleData, 1, api.ErrProto)
	wantFault(t, ahead(512, nil), hexed("4C 00 00 00"), 2, api.ErrProto)
}

// P6.2: what is amiss first is the fault, whatever is amiss behind it.
func TestFaultsInOrder(t *testing.T) {
	for _, header := range [][]byte{mainHeader, guardHeader} {
		for _, size := range []uint32{0, 7, 8, 9, 10, 12, 512, 513, 0x4C534852, 1<<32 - 1} {
			for _, offset := range []byte{0, 1, 2, 3, 4, 128, 129, 255} {
				for _, kind := range []byte{0, 1, 2, 255} {
					b := joined(header, headed(size, offset, kind, 0x1234, 512), mainHeader)
					items, state := byModel(512, b)
					s := stream.New(512)
					wantItems(t, feed(s, b), items...)
					wantState(t, s, state)
				}
			}
		}
	}
}

// P6.2: a frame is whole with as many bytes as its size says, and not ahead of them; the least has eight.
func TestWholeFrames(t *testing.T) {
	s := stream.New(600)
	feed(s, mainHeader)
	for size := 8; size <= 600; size++ {
		b, i := sealed(api.Frame{Channel: size, Body: filled(size-8, size)})
		wantWhole(t, s, b, i)
	}
	for _, ext := range []int{4, 8, 1012} {
		for _, body := range []int{0, 1, 100} {
			b, i := sealed(api.Frame{Type: 1, Ext: filled(ext, 1), Body: filled(body, 100)})
			s := behind(8+1012+100, guardHeader)
			wantWhole(t, s, b, i)
		}
	}
}

// P6.2 and P6.3: of a frame the channel is told whole, of a guard frame it is 0, whatever stands there.
func TestChannels(t *testing.T) {
	for _, channel := range []int{0, 1, 127, 128, 255, 256, 0x1234, 32767, 32768, 65280, 65535} {
		i := api.Item{Kind: api.ItemFrame, Frame: api.Frame{Channel: channel}}
		wantTake(t, behind(512, mainHeader), headed(8, 2, 0, uint16(channel), 0), i, 8)
		i.Frame = api.Frame{Type: api.FrameGuard}
		wantTake(t, behind(512, guardHeader), headed(8, 2, 1, uint16(channel), 0), i, 8)
	}
}
