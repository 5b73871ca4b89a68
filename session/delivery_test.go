package session_test

import (
	"fmt"
	"math"
	"slices"
	"strings"
	"testing"

	"longshore/api"
	"longshore/session"
)

// tags are texts that a delivery may have: any.
var tags = []string{"", "t", "\x00", "\xff\xfe", strings.Repeat("x", 32), strings.Repeat("x", 33), strings.Repeat("x", 5000)}

// P13.10: numbers rise from 0; what is settled has one, too, and is not kept.
func TestDeliver(t *testing.T) {
	s := linked(t, 3)
	want := s.State()
	var unsettled []api.Pending
	for i := range 40 {
		h, tag, settled := i%3, tags[i%len(tags)], i%4 == 1
		wantDeliver(t, s, h, tag, settled, i, api.OK)
		want.NextDelivery++
		if !settled {
			want.Sending++
			unsettled = append(unsettled, api.Pending{Id: i, Handle: h, Tag: tag})
		}
		wantStands(t, "Deliver", s, want)
		wantRange(t, s, true, 0, 100, unsettled...)
		wantRange(t, s, false, 0, 100)
	}
	// Two deliveries may have one tag, and neither hears of the other.
	wantDeliver(t, s, 0, "same", false, 40, api.OK)
	wantDeliver(t, s, 0, "same", false, 41, api.OK)
	wantRange(t, s, true, 40, 41, api.Pending{Id: 40, Tag: "same"}, api.Pending{Id: 41, Tag: "same"})
}

// P13.10, P13.11: a handle that is not in use.
func TestDeliveriesOfNoHandle(t *testing.T) {
	made := func() *session.Session { return busy(t) }
	for _, h := range unused {
		for _, settled := range []bool{false, true} {
			wantRefused(t, "Deliver", made, api.ErrHandle, deliver(t, h, "t", settled))
			wantRefused(t, "Arrive", made, api.ErrHandle, func(s *session.Session) api.Errno { return s.Arrive(500, h, "t", settled) })
			// The handle is looked at ahead of the number.
			wantRefused(t, "Arrive", made, api.ErrHandle, func(s *session.Session) api.Errno { return s.Arrive(1, h, "t", settled) })
		}
	}
}

// deliver is a Deliver that is refused: its number must be 0.
func deliver(t *testing.T, handle int, tag string, settled bool) func(s *session.Session) api.Errno {
	return func(s *session.Session) api.Errno {
		id, e := s.Deliver(handle, tag, settled)
		if id != 0 {
			t.Errorf("Deliver beside an error: %d", id)
		}
		return e
	}
}

// P13.10: numbers go round; one that is not settled yet is not given again, until it is forgotten.
func TestDeliverGoesRound(t *testing.T) {
	s := linked(t, 1)
	wantDeliver(t, s, 0, "first", false, 0, api.OK)
	wantDeliver(t, s, 0, "second", true, 1, api.OK)
	s.SetNextDelivery(maxWord - 1)
	wantDeliver(t, s, 0, "a", false, maxWord-1, api.OK)
	wantDeliver(t, s, 0, "b", true, maxWord, api.OK)
	want := s.State()
	if want.NextDelivery != 0 || want.Sending != 2 {
		t.Fatalf("%+v", want)
	}
	for _, settled := range []bool{false, true} {
		wantDeliver(t, s, 0, "c", settled, 0, api.ErrSeries)
		wantStands(t, "Deliver", s, want)
		wantDeliver(t, s, 1, "c", settled, 0, api.ErrHandle)
		wantStands(t, "Deliver", s, want)
	}
	wantRange(t, s, true, maxWord-1, 0, api.Pending{Id: maxWord - 1, Tag: "a"}, api.Pending{Id: 0, Tag: "first"})
	wantErrno(t, "Forget", s.Forget(true, 0), api.OK)
	wantDeliver(t, s, 0, "c", false, 0, api.OK)
	wantDeliver(t, s, 0, "d", false, 1, api.OK)
	wantRange(t, s, true, maxWord-1, 10, api.Pending{Id: maxWord - 1, Tag: "a"}, api.Pending{Id: 0, Tag: "c"}, api.Pending{Id: 1, Tag: "d"})
}

// P13.10, P13.11: the two ways are two things: a number of the one is free in the other.
func TestTwoWays(t *testing.T) {
	s := linked(t, 1)
	for i := range 5 {
		wantErrno(t, "Arrive", s.Arrive(i, 0, "came", false), api.OK)
		wantDeliver(t, s, 0, "sent", false, i, api.OK)
	}
	for i := range 5 {
		wantErrno(t, "Forget", s.Forget(i%2 == 0, i), api.OK)
	}
	wantRange(t, s, true, 0, 9, api.Pending{Id: 1, Tag: "sent"}, api.Pending{Id: 3, Tag: "sent"})
	wantRange(t, s, false, 0, 9, api.Pending{Id: 0, Tag: "came"}, api.Pending{Id: 2, Tag: "came"}, api.Pending{Id: 4, Tag: "came"})
	if st := s.State(); st.Sending != 2 || st.Receiving != 3 || st.NextDelivery != 5 {
		t.Errorf("%+v", st)
	}
}

// P13.11: any word, in any order, settled or not; NextDelivery stays.
func TestArrive(t *testing.T) {
	for _, id := range words {
		for i, tag := range tags {
			s := linked(t, 3)
			want := s.State()
			wantErrno(t, "Arrive settled", s.Arrive(id, i%3, tag, true), api.OK)
			wantStands(t, "Arrive settled", s, want)
			wantRange(t, s, false, id, id)
			wantErrno(t, "Arrive", s.Arrive(id, i%3, tag, false), api.OK)
			want.Receiving = 1
			wantStands(t, "Arrive", s, want)
			wantRange(t, s, false, id, id, api.Pending{Id: id, Handle: i % 3, Tag: tag})
			wantRange(t, s, true, id, id)
			for _, settled := range []bool{false, true} {
				wantErrno(t, "Arrive again", s.Arrive(id, 0, "other", settled), api.ErrSeries)
				wantStands(t, "Arrive again", s, want)
				wantRange(t, s, false, id, id, api.Pending{Id: id, Handle: i % 3, Tag: tag})
			}
			wantErrno(t, "Forget", s.Forget(false, id), api.OK)
			wantErrno(t, "Arrive behind Forget", s.Arrive(id, 0, "other", false), api.OK)
			wantRange(t, s, false, id, id, api.Pending{Id: id, Tag: "other"})
		}
	}
}

// P13.11: ErrArg ahead of ErrHandle ahead of ErrSeries.
func TestArriveIsRefused(t *testing.T) {
	made := func() *session.Session { return busy(t) }
	for _, settled := range []bool{false, true} {
		for _, id := range noWords {
			for _, h := range []int{0, 3, 2, -1} {
				wantRefused(t, fmt.Sprintf("Arrive(%d, %d)", id, h), made, api.ErrArg, func(s *session.Session) api.Errno { return s.Arrive(id, h, "t", settled) })
			}
		}
		for _, id := range []int{maxWord - 1, 1, 4, 7} {
			for _, h := range []int{0, 1, 3} {
				wantRefused(t, fmt.Sprintf("Arrive(%d, %d)", id, h), made, api.ErrSeries, func(s *session.Session) api.Errno { return s.Arrive(id, h, "t", settled) })
			}
		}
	}
}

// spread is a session with unsettled deliveries that came, of these numbers.
func spread(t *testing.T, ids ...int) *session.Session {
	t.Helper()
	s := linked(t, 2)
	for _, id := range ids {
		wantErrno(t, "Arrive", s.Arrive(id, id%2, fmt.Sprint(id), false), api.OK)
	}
	return s
}

func pendings(ids ...int) []api.Pending {
	var l []api.Pending
	for _, id := range ids {
		l = append(l, api.Pending{Id: id, Handle: id % 2, Tag: fmt.Sprint(id)})
	}
	return l
}

// P13.12: from first to last with both ends, the least Gap first, also over the place where numbers go round; of few numbers and of many.
func TestRange(t *testing.T) {
	s := spread(t, 7, 0, maxWord, 3, 1000, maxWord-5, mostRoom, mostRoom+1, 8, maxWord-1)
	for _, c := range []struct {
		first, last int
		want        []int
	}{
		{0, 0, []int{0}}, {1, 1, nil}, {1, 2, nil}, {1, 3, []int{3}}, {3, 3, []int{3}}, {3, 7, []int{3, 7}}, {4, 6, nil}, {4, 9, []int{7, 8}},
		{0, 999, []int{0, 3, 7, 8}}, {0, 1000, []int{0, 3, 7, 8, 1000}}, {0, mostRoom - 1, []int{0, 3, 7, 8, 1000}}, {0, mostRoom, []int{0, 3, 7, 8, 1000, mostRoom}},
		{1, mostRoom + 1, []int{3, 7, 8, 1000, mostRoom, mostRoom + 1}}, {1, mostRoom, []int{3, 7, 8, 1000, mostRoom}},
		{maxWord, 0, []int{maxWord, 0}}, {maxWord, maxWord, []int{maxWord}}, {maxWord - 1, 3, []int{maxWord - 1, maxWord, 0, 3}}, {maxWord - 5, 1000, []int{maxWord - 5, maxWord - 1, maxWord, 0, 3, 7, 8, 1000}}, {maxWord - 4, 7, []int{maxWord - 1, maxWord, 0, 3, 7}}, {maxWord - 4, maxWord - 2, nil},
		{mostRoom + 1, maxWord, []int{mostRoom + 1, maxWord - 5, maxWord - 1, maxWord}}, {mostRoom + 2, 0, []int{maxWord - 5, maxWord - 1, maxWord, 0}}, {mostRoom + 3, 1, []int{maxWord - 5, maxWord - 1, maxWord, 0}}, {mostRoom + 1002, 1000, []int{maxWord - 5, maxWord - 1, maxWord, 0, 3, 7, 8, 1000}},
		{mostRoom, mostRoom + 1, []int{mostRoom, mostRoom + 1}}, {mostRoom, mostRoom, []int{mostRoom}},
		// Behind first by just 2^31, or ahead of it.
		{0, mostRoom + 1, nil}, {mostRoom + 1, 0, nil}, {1, mostRoom + 2, nil}, {mostRoom + 2, 1, nil}, {mostRoom + 1001, 1000, nil}, {7, 3, nil}, {7, 6, nil}, {0, maxWord, nil}, {1, 0, nil}, {3, mostRoom + 5, nil}, {maxWord, maxWord - 1, nil},
	} {
		wantRange(t, s, false, c.first, c.last, pendings(c.want...)...)
		wantRange(t, s, true, c.first, c.last)
	}
}

// P13.12: none, if first or last is no word, though others that are alike modulo 2^32 would have some.
func TestRangeOfNoWords(t *testing.T) {
	s := spread(t, 0, 1, 5, maxWord, maxWord-1)
	for range 6 {
		wantDeliver(t, s, 0, "t", false, s.State().NextDelivery, api.OK)
	}
	for _, sending := range []bool{false, true} {
		for _, n := range noWords {
			for _, m := range slices.Concat(words, noWords) {
				wantRange(t, s, sending, n, m)
				wantRange(t, s, sending, m, n)
			}
		}
	}
}

// P13.12: of tables of any size any span is told whole, and in order.
func TestRangeOfMany(t *testing.T) {
	for _, count := range []int{0, 1, 2, 3, 10, 300} {
		s := linked(t, 1)
		var ids []int
		for i := range count {
			// Each third number, in an order that jumps.
			id := (maxWord - count + 3*(i*7%max(count, 1))) % (1 << 32)
			if s.Arrive(id, 0, "t", false) == api.OK {
				ids = append(ids, id)
			}
		}
		for span := range 2*len(ids) + 10 {
			for _, first := range []int{maxWord - count - 1, maxWord - count, maxWord - 1, maxWord, 0, 1, 2} {
				var want []api.Pending
				for gap := range span + 1 {
					if id := (first + gap) % (1 << 32); slices.Contains(ids, id) {
						want = append(want, api.Pending{Id: id, Tag: "t"})
					}
				}
				wantRange(t, s, false, first, (first+span)%(1<<32), want...)
			}
		}
	}
}

// P13.12: Forget takes away just the one, once.
func TestForget(t *testing.T) {
	s := busy(t)
	want := s.State()
	wantErrno(t, "Forget", s.Forget(true, 1), api.OK)
	want.Sending = 2
	wantStands(t, "Forget", s, want)
	wantRange(t, s, true, 0, 9, api.Pending{Id: 0, Handle: 0, Tag: "s0"}, api.Pending{Id: 3, Handle: 1, Tag: "s3"})
	wantErrno(t, "Forget", s.Forget(false, maxWord-1), api.OK)
	want.Receiving = 3
	wantStands(t, "Forget", s, want)
	wantRange(t, s, false, maxWord-1, 9, api.Pending{Id: 1, Handle: 3, Tag: "r1"}, api.Pending{Id: 4, Handle: 0, Tag: "r2"}, api.Pending{Id: 7, Handle: 1, Tag: "r3"})
	wantErrno(t, "Forget", s.Forget(true, 1), api.ErrSeries)
	wantErrno(t, "Forget", s.Forget(false, maxWord-1), api.ErrSeries)
	wantStands(t, "Forget twice", s, want)
}

// P13.12: ErrSeries of what is not there: never was, was settled from the first, is of the other way, is no word.
func TestForgetIsRefused(t *testing.T) {
	made := func() *session.Session { return busy(t) }
	for _, id := range slices.Concat(noWords, []int{2, 4, 5, maxWord - 1, maxWord, 1<<32 + 1, 1 << 32, math.MaxInt}) {
		wantRefused(t, fmt.Sprint("Forget(true, ", id, ")"), made, api.ErrSeries, func(s *session.Session) api.Errno { return s.Forget(true, id) })
	}
	for _, id := range slices.Concat(noWords, []int{0, 2, 3, 5, maxWord, 1<<32 + 1, 1<<32 + 4, math.MaxInt}) {
		wantRefused(t, fmt.Sprint("Forget(false, ", id, ")"), made, api.ErrSeries, func(s *session.Session) api.Errno { return s.Forget(false, id) })
	}
	empty := func() *session.Session { return started(t, begin(1, 2, 3, 4)) }
	for _, sending := range []bool{false, true} {
		wantRefused(t, "Forget", empty, api.ErrSeries, func(s *session.Session) api.Errno { return s.Forget(sending, 0) })
	}
}
