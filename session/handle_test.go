package session_test

import (
	"fmt"
	"math"
	"slices"
	"testing"

	"longshore/api"
	"longshore/session"
)

// P13.8: ahead of the peer's Begin there are no handles, whatever it will say.
func TestHandleAheadOfThePeersBegin(t *testing.T) {
	made := func() *session.Session { return started(t, begin(5, 2, 10, maxWord)) }
	wantRefused(t, "Handle", made, api.ErrState, func(s *session.Session) api.Errno {
		h, e := s.Handle()
		if h != 0 {
			t.Errorf("Handle beside an error: %d", h)
		}
		return e
	})
}

// P13.8: handles rise from 0 to RemoteHandle, and there are at most MaxLinks of them; the own HandleMax doesn't matter.
func TestHandles(t *testing.T) {
	for _, remoteHandle := range []int{0, 1, 2, 62, 63, 64, 65, 1000, mostRoom, maxWord} {
		for _, handleMax := range []int{0, maxWord} {
			made := func() *session.Session {
				s := up(t, begin(5, 2, 10, handleMax), begin(7, 3, 11, remoteHandle))
				before := s.State()
				for i := range min(remoteHandle+1, 64) {
					wantHandle(t, s, i, api.OK)
					wantStands(t, "Handle", s, before)
				}
				return s
			}
			wantRefused(t, "Handle", made, api.ErrHandle, func(s *session.Session) api.Errno {
				h, e := s.Handle()
				if h != 0 {
					t.Errorf("Handle beside an error: %d", h)
				}
				return e
			})
		}
	}
}

// P13.8: behind Free the least one is given out, one after the other.
func TestLeastHandle(t *testing.T) {
	for _, freed := range [][]int{{0}, {63}, {9}, {5, 3, 60}, {0, 1, 2}, {63, 62, 0}, {10, 9, 8, 7, 30}} {
		s := linked(t, 64)
		for _, h := range freed {
			wantErrno(t, "Free", s.Free(h), api.OK)
		}
		for _, h := range slices.Sorted(slices.Values(freed)) {
			wantHandle(t, s, h, api.OK)
		}
		wantHandle(t, s, 0, api.ErrHandle)
	}
	s := linked(t, 3)
	wantErrno(t, "Free", s.Free(1), api.OK)
	wantHandle(t, s, 1, api.OK)
	wantHandle(t, s, 3, api.OK)
	wantErrno(t, "Free", s.Free(3), api.OK)
	wantErrno(t, "Free", s.Free(0), api.OK)
	wantHandle(t, s, 0, api.OK)
	wantHandle(t, s, 3, api.OK)
	wantHandle(t, s, 4, api.OK)
}

// P13.8: RemoteHandle bounds also what is given out behind a Free.
func TestLeastHandleOfFew(t *testing.T) {
	s := up(t, begin(5, 2, 10, 1), begin(7, 3, 11, 1))
	wantHandle(t, s, 0, api.OK)
	wantHandle(t, s, 1, api.OK)
	for range 3 {
		wantHandle(t, s, 0, api.ErrHandle)
		wantErrno(t, "Free", s.Free(1), api.OK)
		wantHandle(t, s, 1, api.OK)
		wantErrno(t, "Free", s.Free(0), api.OK)
		wantHandle(t, s, 0, api.OK)
	}
}

// unused are handles that are not in use in a busy session.
var unused = []int{-1, -2, 2, 4, 5, 63, 64, 65, 1000, maxWord, maxWord + 1, 1 << 32, 1<<32 + 3, math.MinInt, math.MaxInt}

// P13.8: Free of what is not in use.
func TestFreeIsRefused(t *testing.T) {
	for _, h := range unused {
		wantRefused(t, fmt.Sprint("Free ", h), func() *session.Session { return busy(t) }, api.ErrHandle, func(s *session.Session) api.Errno { return s.Free(h) })
	}
	for _, h := range []int{-1, 0, 1} {
		wantRefused(t, "Free", func() *session.Session { return started(t, begin(1, 2, 3, 4)) }, api.ErrHandle, func(s *session.Session) api.Errno { return s.Free(h) })
		wantRefused(t, "Free", func() *session.Session { return up(t, begin(1, 2, 3, 4), begin(1, 2, 3, 4)) }, api.ErrHandle, func(s *session.Session) api.Errno { return s.Free(h) })
	}
	twice := func() *session.Session {
		s := busy(t)
		wantErrno(t, "Free", s.Free(3), api.OK)
		return s
	}
	wantRefused(t, "Free twice", twice, api.ErrHandle, func(s *session.Session) api.Errno { return s.Free(3) })
}

// P13.8: with a handle goes the peer's that stood for it, and its unsettled deliveries of either way; all of others stays.
func TestFree(t *testing.T) {
	s := busy(t)
	want := s.State()
	wantErrno(t, "Free", s.Free(0), api.OK)
	want.Sending, want.Receiving = 2, 2
	wantStands(t, "Free", s, want)
	wantRange(t, s, true, 0, 10, api.Pending{Id: 1, Handle: 3, Tag: "s1"}, api.Pending{Id: 3, Handle: 1, Tag: "s3"})
	wantRange(t, s, false, maxWord-1, 20, api.Pending{Id: 1, Handle: 3, Tag: "r1"}, api.Pending{Id: 7, Handle: 1, Tag: "r3"})
	wantLocal(t, s, 5, 0, false)
	wantLocal(t, s, 64, 3, true)
	wantDeliver(t, s, 0, "t", false, 0, api.ErrHandle)
	wantErrno(t, "Arrive", s.Arrive(100, 0, "t", false), api.ErrHandle)
	wantErrno(t, "Remote", s.Remote(7, 0), api.ErrHandle)
	// Of one that no handle of the peer's stands for.
	wantErrno(t, "Free", s.Free(1), api.OK)
	want.Sending, want.Receiving = 1, 1
	wantStands(t, "Free", s, want)
	wantLocal(t, s, 64, 3, true)
	// The same handle again is another link's: nothing of the old one comes back, and its numbers are free.
	wantHandle(t, s, 0, api.OK)
	wantStands(t, "Handle", s, want)
	wantLocal(t, s, 5, 0, false)
	wantErrno(t, "Remote", s.Remote(5, 0), api.OK)
	wantErrno(t, "Arrive", s.Arrive(maxWord-1, 0, "new", false), api.OK)
	wantRange(t, s, false, maxWord-1, 20, api.Pending{Id: maxWord - 1, Tag: "new"}, api.Pending{Id: 1, Handle: 3, Tag: "r1"})
	wantDeliver(t, s, 0, "t", false, 4, api.OK)
}

// P13.8: of many deliveries just those of the handle go.
func TestFreeOfMany(t *testing.T) {
	s := linked(t, 5)
	var sent, came [5][]api.Pending
	for i := range 1000 {
		h, tag := i*i%5, fmt.Sprint(i)
		wantDeliver(t, s, h, tag, false, i, api.OK)
		wantErrno(t, "Arrive", s.Arrive(maxWord-2*i, (h+i)%5, tag, false), api.OK)
		sent[h] = append(sent[h], api.Pending{Id: i, Handle: h, Tag: tag})
		came[(h+i)%5] = append(came[(h+i)%5], api.Pending{Id: maxWord - 2*i, Handle: (h + i) % 5, Tag: tag})
	}
	for _, h := range []int{3, 0, 4, 1, 2} {
		wantErrno(t, "Free", s.Free(h), api.OK)
		sent[h], came[h] = nil, nil
		wantSet(t, s.Range(true, 0, mostRoom), slices.Concat(sent[:]...))
		wantSet(t, s.Range(false, mostRoom+1, maxWord), slices.Concat(came[:]...))
	}
	if st := s.State(); st.Sending != 0 || st.Receiving != 0 {
		t.Errorf("%+v", st)
	}
}

// wantSet wants these deliveries, by rising numbers.
func wantSet(t *testing.T, got, want []api.Pending) {
	t.Helper()
	slices.SortFunc(want, func(a, b api.Pending) int { return a.Id - b.Id })
	if !slices.Equal(got, want) {
		t.Fatalf("%v, want %v", got, want)
	}
}

// P13.9: each of the four reasons for ErrHandle, all else being right.
func TestRemoteIsRefused(t *testing.T) {
	made := func() *session.Session { return busy(t) }
	refused := func(remote, handle int) {
		t.Helper()
		wantRefused(t, fmt.Sprintf("Remote(%d, %d)", remote, handle), made, api.ErrHandle, func(s *session.Session) api.Errno { return s.Remote(remote, handle) })
	}
	for _, remote := range []int{-1, -2, 1001, 1002, maxWord, maxWord + 1, 1 << 32, math.MinInt, math.MaxInt} {
		refused(remote, 1)
	}
	for _, remote := range []int{5, 64} {
		refused(remote, 1)
	}
	for _, handle := range unused {
		refused(7, handle)
	}
	for _, handle := range []int{0, 3} {
		refused(7, handle)
	}
	// What stands for a handle already, once more; both taken, each by another one; several things wrong.
	for _, c := range [][2]int{{5, 0}, {64, 3}, {5, 3}, {64, 0}, {-1, -1}, {1001, 0}, {5, 2}, {-1, 2}} {
		refused(c[0], c[1])
	}
}

// P13.9: remote goes from 0 to the own HandleMax, whatever RemoteHandle is.
func TestRemote(t *testing.T) {
	for _, handleMax := range []int{0, 1, 2, 63, 64, 1000, mostRoom, mostRoom + 1, maxWord} {
		for _, remote := range []int{-1, 0, 1, handleMax - 1, handleMax, handleMax + 1, maxWord, maxWord + 1} {
			s := up(t, begin(5, 2, 10, handleMax), begin(7, 3, 11, 2))
			for i := range 3 {
				wantHandle(t, s, i, api.OK)
			}
			before := s.State()
			wantLocal(t, s, remote, 0, false)
			if remote < 0 || remote > handleMax {
				wantErrno(t, "Remote", s.Remote(remote, 2), api.ErrHandle)
				wantLocal(t, s, remote, 0, false)
			} else {
				wantErrno(t, "Remote", s.Remote(remote, 2), api.OK)
				wantLocal(t, s, remote, 2, true)
			}
			wantStands(t, "Remote", s, before)
		}
	}
}

// P13.9: many handles, each with one of the peer's; a handle of the peer's that went with ours may stand for another one.
func TestRemotes(t *testing.T) {
	s := linked(t, 64)
	for h := range 64 {
		wantErrno(t, "Remote", s.Remote(maxWord-3*h, h), api.OK)
	}
	for h := range 64 {
		wantLocal(t, s, maxWord-3*h, h, true)
		wantLocal(t, s, maxWord-3*h-1, 0, false)
	}
	wantErrno(t, "Free", s.Free(10), api.OK)
	wantErrno(t, "Free", s.Free(20), api.OK)
	wantErrno(t, "Remote", s.Remote(maxWord-60, 10), api.ErrHandle)
	wantHandle(t, s, 10, api.OK)
	wantErrno(t, "Remote", s.Remote(maxWord-60, 10), api.OK)
	wantLocal(t, s, maxWord-60, 10, true)
	wantLocal(t, s, maxWord-30, 0, false)
	for h := range 64 {
		if h != 10 && h != 20 {
			wantLocal(t, s, maxWord-3*h, h, true)
		}
	}
}

// P13.9: Local of what stands for none, of any number.
func TestLocalOfNone(t *testing.T) {
	for _, s := range []*session.Session{started(t, begin(1, 2, 3, 4)), linked(t, 64), up(t, begin(1, 2, 3, 4), begin(1, 2, 3, 4))} {
		for _, remote := range slices.Concat(words, noWords) {
			wantLocal(t, s, remote, 0, false)
		}
	}
	s := busy(t)
	for _, remote := range slices.Concat(words, noWords) {
		switch remote {
		case 5:
			wantLocal(t, s, 5, 0, true)
		case 64:
			wantLocal(t, s, 64, 3, true)
		default:
			wantLocal(t, s, remote, 0, false)
		}
	}
}
