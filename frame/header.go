package frame

import (
	"bytes"

	"longshore/api"
)

const headerSize = 8

// Header writes a header.
func Header(proto int) ([]byte, api.Errno) {
	if proto != api.ProtoMain && proto != api.ProtoGuard {
		return nil, api.ErrProto
	}
	return []byte{'L', 'S', 'H', 'R', byte(proto), 1, 0, 0}, api.OK
}

// ReadHeader reads the header at a place: its protocol, and the place behind it.
func ReadHeader(b []byte, at int) (int, int, api.Errno) {
	if at < 0 || at > len(b) {
		return 0, 0, api.ErrArg
	}
	there := b[at:]
	there = there[:min(len(there), headerSize)]
	for _, proto := range [2]int{api.ProtoMain, api.ProtoGuard} {
		whole, _ := Header(proto)
		if !bytes.HasPrefix(whole, there) {
			continue
		}
		if len(there) < headerSize {
			return 0, 0, api.ErrShort
		}
		return proto, at + headerSize, api.OK
	}
	return 0, 0, api.ErrProto
}
