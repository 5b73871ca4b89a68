package disk

// mostOfName is how many bytes a name has at most.
const mostOfName = 16

// file is a file's bytes, and how many of them are safe.
type file struct {
	data []byte
	safe int
}

func (f *file) hasTail() bool { return f.safe < len(f.data) }

// fall leaves the safe bytes and the first ones of the tail; all that has stayed is safe.
func (f *file) fall(keep int) {
	stays := f.safe + min(max(keep, 0), len(f.data)-f.safe)
	if stays < len(f.data) {
		// Not a piece of what there was: the rest would be kept behind it.
		f.data = own(f.data[:stays])
	}
	f.safe = stays
}

// own is bytes in memory of their own. Of none it is nil, not an empty piece of what came in: that would keep all of it.
func own(b []byte) []byte { return append([]byte(nil), b...) }

func isName(s string) bool {
	if len(s) < 1 || len(s) > mostOfName {
		return false
	}
	for i := range len(s) {
		if b := s[i]; b != '.' && (b < 'a' || b > 'z') {
			return false
		}
	}
	return true
}
