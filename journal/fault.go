package journal

import (
	"errors"
	"strconv"

	"longshore/api"
)

// errBegun is a batch's beginning without the rest: what a fall leaves.
var errBegun = errors.New("a batch that does not end")

// number is what a call answers, as an error.
type number api.Errno

func (n number) Error() string { return "error " + strconv.Itoa(int(n)) }

// fault is what is amiss with a log's bytes, from a place on.
type fault struct {
	at  int
	why error
}

func (f *fault) Error() string { return "at " + strconv.Itoa(f.at) + ": " + f.why.Error() }

func (f *fault) Unwrap() error { return f.why }

// amiss is an answer as an error; of OK it is none.
func amiss(e api.Errno) error {
	if e == api.OK {
		return nil
	}
	return number(e)
}

// errnoOf is the number that an error wraps; of none it is OK.
func errnoOf(err error) api.Errno {
	var n number
	if errors.As(err, &n) {
		return api.Errno(n)
	}
	return api.OK
}
