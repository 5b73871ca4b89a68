package carve_test

import (
	"fmt"
	"math/rand"
	"slices"
	"testing"

	"longshore/api"
	"longshore/carve"
	"longshore/frame"
	"longshore/perform"
	"longshore/stream"
)

// delivered is the delivery that a whole transfer with a payload gives.
func delivered(p api.Perform, payload string) api.Delivery {
	return api.Delivery{Id: p.DeliveryId, Tag: p.Tag, Format: p.Format, Settled: p.HasSettled && p.Settled, State: p.State, Data: []byte(payload)}
}

// split are the frames of a transfer that Split takes.
func split(t *testing.T, p api.Perform, channel int, payload string, most int) [][]byte {
	t.Helper()
	frames, e := carve.Split(p, channel, []byte(payload), most)
	if e != api.OK {
		t.Fatalf("Split(%s, %d, %d bytes, %d): %d", told(p), channel, len(payload), most, e)
	}
	return frames
}

// anyDelivery is a transfer with a number and a tag, without More and Aborted.
func anyDelivery(r *rand.Rand) api.Perform {
	p := anyTransfer(r)
	return turned(p, func(p *api.Perform) { p.DeliveryId, p.HasTag, p.More = max(p.DeliveryId, 0), true, false })
}

// P12.5: the frames of a delivery, read and given to a Joiner whose most is the payload's length, give just this delivery; one of one byte less has too much.
func TestThereAndBack(t *testing.T) {
	r := rand.New(rand.NewSource(125))
	for i := range 1000 {
		p, payload, most := anyDelivery(r), text(r.Intn(5000)), 512+r.Intn(1000)
		switch i {
		case 0, 1, 2:
			payload = text(api.MaxMessage - i)
		case 3:
			payload, most = text(api.MaxMessage), 1<<20
		case 4, 5, 6:
			payload, p = text(i-4), sized(t, most-9)
		}
		j, wide, narrow := joiner(t, len(payload)), joiner(t, api.MaxMessage), joiner(t, max(0, len(payload)-1))
		frames := split(t, p, 77, payload, most)
		sum := 0
		for k, b := range frames {
			q, piece := opened(t, b, 77, most)
			sum += len(piece)
			for _, j := range []*carve.Joiner{j, wide} {
				if k < len(frames)-1 {
					wantOn(t, j, q, string(piece), api.OK, true, sum)
				} else {
					wantWhole(t, j, q, string(piece), delivered(p, payload))
				}
			}
			if k == len(frames)-1 && len(payload) > 0 {
				wantOn(t, narrow, q, string(piece), api.ErrTooMuch, false, 0)
			} else {
				narrow.On(q, piece)
			}
		}
	}
}

// P12.5: of a transfer with More what follows goes on with its delivery: Split's frames of the parts, one behind the other, are one delivery.
func TestPartsOfADelivery(t *testing.T) {
	r := rand.New(rand.NewSource(1251))
	for range 500 {
		p := anyDelivery(r)
		payload := text(3000)
		cuts := []int{r.Intn(3001), r.Intn(3001)}
		slices.Sort(cuts)
		next := modelFurther(p)
		frames := slices.Concat(split(t, turned(p, more), 1, payload[:cuts[0]], 512), split(t, turned(next, more), 1, payload[cuts[0]:cuts[1]], 600), split(t, next, 1, payload[cuts[1]:], 512))
		j := joiner(t, 3000)
		for k, b := range frames {
			q, piece := opened(t, b, 1, 600)
			d, whole, e := j.On(q, piece)
			if last := k == len(frames)-1; e != api.OK || whole != last || last && !alike(d, delivered(p, payload)) {
				t.Fatalf("frame %d of %d: %s, %v, %d", k, len(frames), told(d), whole, e)
			}
		}
	}
}

// on is a link, as a frame tells it.
type on struct{ channel, handle int }

// sender has deliveries of one link whose frames go out one behind the other.
type sender struct {
	at     on
	frames [][]byte
	want   []api.Delivery
}

func anySender(t *testing.T, r *rand.Rand, at on, most int) *sender {
	s := &sender{at: at}
	for range r.Intn(5) {
		p, payload := anyDelivery(r), text(r.Intn(2500))
		p.Handle = at.handle
		if r.Intn(5) == 0 {
			// One that is given up behind some of its frames: nothing comes of it.
			frames := split(t, turned(p, more), at.channel, payload, most)
			s.frames = append(s.frames, frames[:r.Intn(len(frames)+1)]...)
			s.frames = append(s.frames, split(t, turned(p, aborted), at.channel, "x", most)...)
			continue
		}
		s.frames = append(s.frames, split(t, p, at.channel, payload, most)...)
		s.want = append(s.want, delivered(p, payload))
	}
	return s
}

// P12.5, and DOC.md's P0.3: deliveries of many links, their frames mixed, with other frames between, over a stream in any pieces: each link's deliveries come once, in order, byte for byte.
func TestManyLinksOverAStream(t *testing.T) {
	r := rand.New(rand.NewSource(1252))
	for range 150 {
		most := 512 + r.Intn(500)
		var senders []*sender
		joiners := map[on]*carve.Joiner{}
		for _, at := range []on{{0, 0}, {0, 1}, {1, 0}, {1, 1}, {65535, 0}, {65535, api.MaxWord}} {
			senders = append(senders, anySender(t, r, at, most))
			joiners[at] = joiner(t, 2500)
		}
		got := map[on][]api.Delivery{}
		for _, f := range streamed(t, r, mixed(t, r, senders), most) {
			p, at, e := perform.Read(f.Body)
			if len(f.Body) == 0 || p.Kind != api.KTransfer {
				continue
			}
			link := on{f.Channel, p.Handle}
			d, whole, oe := joiners[link].On(p, f.Body[at:])
			if e != api.OK || oe != api.OK {
				t.Fatalf("%v: %s: %d, %d", link, told(p), e, oe)
			}
			if whole {
				got[link] = append(got[link], d)
			}
		}
		for _, s := range senders {
			wantDeliveries(t, fmt.Sprint(s.at), got[s.at], s.want)
			wantHeld(t, joiners[s.at], false, 0)
		}
	}
}

func wantDeliveries(t *testing.T, name string, got, want []api.Delivery) {
	t.Helper()
	if !slices.EqualFunc(got, want, alike[api.Delivery]) {
		t.Fatalf("%s: the deliveries are %s, want %s", name, told(got), told(want))
	}
}

// mixed are the bytes of a connection: a header, the senders' frames, each one's in its order, and frames that are no transfers.
func mixed(t *testing.T, r *rand.Rand, senders []*sender) []byte {
	t.Helper()
	b, _ := frame.Header(api.ProtoMain)
	left := make([]sender, len(senders))
	for i, s := range senders {
		left[i] = *s
	}
	for len(left) > 0 {
		i := r.Intn(len(left))
		if len(left[i].frames) == 0 {
			left = slices.Delete(left, i, i+1)
			continue
		}
		b = append(b, left[i].frames[0]...)
		left[i].frames = left[i].frames[1:]
		if r.Intn(4) == 0 {
			b = append(b, otherFrame(r)...)
		}
	}
	return b
}

// otherFrame is an empty frame, or one of another performative.
func otherFrame(r *rand.Rand) []byte {
	f := api.Frame{Channel: r.Intn(2)}
	if r.Intn(2) == 0 {
		f.Body, _ = perform.Write(perform.Blank([]int{api.KFlow, api.KDisposition, api.KDetach}[r.Intn(3)]))
	}
	b, _ := frame.Seal(f)
	return b
}

// streamed are the frames of bytes that come in any pieces.
func streamed(t *testing.T, r *rand.Rand, b []byte, most int) []api.Frame {
	t.Helper()
	s := stream.New(most)
	var l []api.Frame
	for len(b) > 0 {
		n := min(len(b), r.Intn(1000))
		for item := range s.All(b[:n]) {
			if item.Kind == api.ItemFrame {
				l = append(l, item.Frame)
			}
		}
		b = b[n:]
	}
	if st := s.State(); st.Err != api.OK || st.Held != 0 {
		t.Fatalf("the stream: %+v", st)
	}
	return l
}

// P12.5: Joiners know nothing of one another.
func TestJoinersBesideOneAnother(t *testing.T) {
	a, b := joiner(t, 10), joiner(t, 3)
	wantOn(t, a, transfer(7, "t", more), "abc", api.OK, true, 3)
	wantHeld(t, b, false, 0)
	wantOn(t, b, further(), "x", api.ErrTag, false, 0)
	wantOn(t, b, transfer(7, "t", more, settled), "xy", api.OK, true, 2)
	wantOn(t, b, further(more), "zz", api.ErrTooMuch, true, 0)
	wantOn(t, a, further(more), "de", api.OK, true, 5)
	wantOn(t, b, further(aborted), "", api.OK, false, 0)
	wantWhole(t, a, further(), "f", said(7, "t", "abcdef"))
	wantWhole(t, b, transfer(8, "u"), "z", said(8, "u", "z"))
}
