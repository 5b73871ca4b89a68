package stream

import (
	"bytes"

	"longshore/api"
	"longshore/frame"
	"longshore/octet"
)

const (
	wordSize = 4 // the bytes of a frame's size, and of what both headers begin with
	typeAt   = 5
)

// step takes a byte, and tells the item that is whole with it.
func (s *Stream) step(c byte) api.Item {
	s.taken++
	s.held = append(s.held, c)
	item, e := s.means()
	if e != api.OK {
		s.err = e
		s.held = nil
		return api.Item{}
	}
	if item.Kind != api.ItemNone {
		s.at = s.taken
		s.held = nil
		s.awaitFrame()
	}
	return item
}

func (s *Stream) awaitHeader() {
	s.header = true
	s.means = s.inHeader
}

func (s *Stream) awaitFrame() {
	s.header = false
	s.means = s.inSize
}

func (s *Stream) inHeader() (api.Item, api.Errno) {
	proto, _, e := frame.ReadHeader(s.held, 0)
	if e == api.ErrShort {
		return api.Item{}, api.OK
	}
	s.kind = typeBehind(proto)
	return api.Item{Kind: api.ItemProto, Proto: proto}, e
}

// typeBehind is the type of frames that goes with a header.
func typeBehind(proto int) int {
	if proto == api.ProtoGuard {
		return api.FrameGuard
	}
	return api.FrameMain
}

func (s *Stream) inSize() (api.Item, api.Errno) {
	if len(s.held) < wordSize {
		return api.Item{}, api.OK
	}
	if beginsHeader(s.held) {
		return api.Item{}, api.ErrOrder
	}
	if e := s.fault(s.limit); e != api.OK {
		return api.Item{}, e
	}
	size, e := octet.Get(s.held, 0, wordSize)
	s.size = int(size)
	s.means = s.inOffset
	return api.Item{}, e
}

// beginsHeader tells whether the bytes are the beginning of a header: all headers have the same first four.
func beginsHeader(b []byte) bool {
	header, _ := frame.Header(api.ProtoMain)
	return bytes.HasPrefix(header, b)
}

func (s *Stream) inOffset() (api.Item, api.Errno) {
	s.means = s.inType
	return api.Item{}, s.fault(api.MaxFrame)
}

func (s *Stream) inType() (api.Item, api.Errno) {
	if e := s.fault(api.MaxFrame); e != api.OK {
		return api.Item{}, e
	}
	if int(s.held[typeAt]) != s.kind {
		return api.Item{}, api.ErrOrder
	}
	s.means = s.inRest
	return api.Item{}, api.OK
}

// inRest asks no limit: the size was held against that which there was at its last byte, and another one may have been said since.
func (s *Stream) inRest() (api.Item, api.Errno) {
	if len(s.held) < s.size {
		return api.Item{}, api.OK
	}
	f, _, e := frame.Open(s.held, 0, api.MaxFrame)
	return api.Item{Kind: api.ItemFrame, Frame: f}, e
}

// fault is what frame.Open finds wrong with what is held of a frame, but that it is not whole.
func (s *Stream) fault(most int) api.Errno {
	_, _, e := frame.Open(s.held, 0, most)
	if e == api.ErrShort {
		return api.OK
	}
	return e
}
