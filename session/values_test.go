package session_test

import (
	"fmt"
	"math"
	"slices"
	"strings"
	"testing"

	"longshore/api"
	"longshore/session"
)

// maxWord and mostRoom are said anew, not asked of the program.
const (
	maxWord  = 4294967295
	mostRoom = 2147483647
)

// words are numbers at which a word, a Gap or a window ends; noWords are numbers next to them, or such as are alike modulo 2^32.
var (
	words   = []int{0, 1, 2, 5, 63, 64, 65, 1000, mostRoom - 1, mostRoom, mostRoom + 1, mostRoom + 2, maxWord - 1, maxWord}
	noWords = []int{-1, -2, maxWord + 1, maxWord + 2, -mostRoom, -maxWord, -maxWord - 1, 1<<32 + 5, 1 << 62, math.MinInt, math.MinInt + 1, math.MaxInt - 1, math.MaxInt}
)

// kindsBut are kinds of composites, and what is none, without one of them.
func kindsBut(kind int) []int {
	l := []int{0, -1, 1, 15, 25, api.KFault, api.KAccepted, api.KSource, api.KBody, kind + 256, kind + 1<<32, -kind, math.MinInt, math.MaxInt}
	for k := api.KOpen; k <= api.KClose; k++ {
		l = append(l, k)
	}
	return slices.DeleteFunc(l, func(k int) bool { return k == kind })
}

func begin(nextOut, inWin, outWin, handleMax int) api.Perform {
	return api.Perform{Kind: api.KBegin, Remote: -1, NextOut: nextOut, InWin: inWin, OutWin: outWin, HandleMax: handleMax}
}

func flow(nextIn, inWin, nextOut, outWin int) api.Perform {
	return api.Perform{Kind: api.KFlow, NextIn: nextIn, InWin: inWin, NextOut: nextOut, OutWin: outWin, Handle: -1, Count: -1, Credit: -1, Available: -1}
}

// turned is a performative in which something is another.
func turned(p api.Perform, turn func(p *api.Perform)) api.Perform {
	turn(&p)
	return p
}

func started(t *testing.T, own api.Perform) *session.Session {
	t.Helper()
	s := session.New(own)
	if s == nil {
		t.Fatalf("New(%+v): nil", own)
	}
	return s
}

// up is a session to which the peer's Begin has come.
func up(t *testing.T, own, peer api.Perform) *session.Session {
	t.Helper()
	s := started(t, own)
	wantErrno(t, "Peer", s.Peer(peer), api.OK)
	return s
}

// linked is a session with so many handles in use.
func linked(t *testing.T, handles int) *session.Session {
	t.Helper()
	s := up(t, begin(5, 2, 10, maxWord), begin(7, 3, 11, maxWord))
	for i := range handles {
		wantHandle(t, s, i, api.OK)
	}
	return s
}

func wantErrno(t *testing.T, what string, got, want api.Errno) {
	t.Helper()
	if got != want {
		t.Fatalf("%s: %d, want %d", what, got, want)
	}
}

func wantHandle(t *testing.T, s *session.Session, want int, wantE api.Errno) {
	t.Helper()
	if h, e := s.Handle(); h != want || e != wantE {
		t.Fatalf("Handle(): %d, %d, want %d, %d", h, e, want, wantE)
	}
}

func wantLocal(t *testing.T, s *session.Session, remote, want int, wantIs bool) {
	t.Helper()
	if h, is := s.Local(remote); h != want || is != wantIs {
		t.Fatalf("Local(%d): %d, %v, want %d, %v", remote, h, is, want, wantIs)
	}
}

func wantDeliver(t *testing.T, s *session.Session, handle int, tag string, settled bool, want int, wantE api.Errno) {
	t.Helper()
	if id, e := s.Deliver(handle, tag, settled); id != want || e != wantE {
		t.Fatalf("Deliver(%d, %q, %v): %d, %d, want %d, %d", handle, tag, settled, id, e, want, wantE)
	}
}

func wantRange(t *testing.T, s *session.Session, sending bool, first, last int, want ...api.Pending) {
	t.Helper()
	if l := s.Range(sending, first, last); !slices.Equal(l, want) {
		t.Fatalf("Range(%v, %d, %d): %v, want %v", sending, first, last, l, want)
	}
}

// wantStands wants these numbers of State, and of Fields and Room what they say of them.
func wantStands(t *testing.T, what string, s *session.Session, want api.SessionState) {
	t.Helper()
	if got := s.State(); got != want {
		t.Fatalf("%s: State(): %+v, want %+v", what, got, want)
	}
	fields, room := flow(-1, want.InWin, want.NextOut, want.OutWin), 0
	if want.Peer {
		fields.NextIn = want.NextIn
		room = want.OutWin
		if want.RemoteIn < room {
			room = want.RemoteIn
		}
	}
	if got := s.Fields(); told(got) != told(fields) {
		t.Fatalf("%s: Fields(): %s, want %s", what, told(got), told(fields))
	}
	if got := s.Room(); got != room {
		t.Fatalf("%s: Room(): %d, want %d", what, got, room)
	}
}

func told(x any) string { return fmt.Sprintf("%+v", x) }

// halves are two pairs of numbers between which all numbers lie.
var halves = [][2]int{{0, mostRoom}, {mostRoom + 1, maxWord}}

// seen is what can be seen of a session without a change of it.
func seen(s *session.Session) string {
	var b strings.Builder
	fmt.Fprintf(&b, "%+v %+v %d", s.State(), s.Fields(), s.Room())
	for _, half := range halves {
		fmt.Fprint(&b, s.Range(true, half[0], half[1]), s.Range(false, half[0], half[1]))
	}
	for _, remote := range slices.Concat(noWords, words) {
		h, is := s.Local(remote)
		fmt.Fprint(&b, h, is)
	}
	return b.String()
}

// probed is all that can be seen of a session, by calls that change it, too.
func probed(s *session.Session) string {
	var b strings.Builder
	b.WriteString(seen(s))
	for h := -1; h <= api.MaxLinks; h++ {
		id, e := s.Deliver(h, "sent", false)
		fmt.Fprint(&b, id, e, s.Arrive(1000+h, h, "came", false), s.Remote(2000+h, h))
	}
	fmt.Fprint(&b, s.Flow(flow(-1, maxWord, 99, 98)), seen(s))
	for range 3 {
		h, e := s.Handle()
		fmt.Fprint(&b, h, e, s.Sent(), s.Got())
	}
	fmt.Fprint(&b, s.Peer(begin(96, 95, 94, 93)), seen(s))
	for h := -1; h <= api.MaxLinks; h++ {
		fmt.Fprint(&b, s.Free(h), s.State())
	}
	return b.String()
}

// wantRefused wants an error of a call, and no change by it.
func wantRefused(t *testing.T, what string, made func() *session.Session, want api.Errno, call func(s *session.Session) api.Errno) {
	t.Helper()
	s := made()
	before := seen(s)
	wantErrno(t, what, call(s), want)
	if after := seen(s); after != before {
		t.Fatalf("%s: %s, before: %s", what, after, before)
	}
	if got, want := probed(s), probed(made()); got != want {
		t.Fatalf("%s: something has changed: %s, want %s", what, got, want)
	}
}

// busy is a session in the midst of things: handles 0, 1 and 3 in use, two of which the peer's stand for, deliveries either way, numbers that have gone on.
func busy(t *testing.T) *session.Session {
	t.Helper()
	s := up(t, begin(maxWord-1, 4, 10, 1000), begin(5, 6, 7, 63))
	for i := range 4 {
		wantHandle(t, s, i, api.OK)
	}
	wantErrno(t, "Free", s.Free(2), api.OK)
	wantErrno(t, "Remote", s.Remote(5, 0), api.OK)
	wantErrno(t, "Remote", s.Remote(64, 3), api.OK)
	for i, h := range []int{0, 3, 0, 1} {
		wantDeliver(t, s, h, fmt.Sprint("s", i), i == 2, i, api.OK)
		wantErrno(t, "Arrive", s.Arrive((maxWord-1+3*i)&maxWord, h, fmt.Sprint("r", i), false), api.OK)
	}
	for range 3 {
		wantErrno(t, "Sent", s.Sent(), api.OK)
		wantErrno(t, "Got", s.Got(), api.OK)
	}
	return s
}
