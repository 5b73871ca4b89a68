package session_test

import (
	"fmt"
	"math/rand"
	"testing"

	"longshore/api"
	"longshore/session"
)

var _ calls = (*session.Session)(nil)

// asked is a call with its arguments.
type asked struct {
	name string
	call func(c calls) string
}

func anyNumber(r *rand.Rand) int {
	if r.Intn(4) == 0 {
		return noWords[r.Intn(len(noWords))]
	}
	return words[r.Intn(len(words))]
}

// near is a word not far from another one, now and then any number.
func near(r *rand.Rand, n int) int {
	if r.Intn(12) == 0 {
		return anyNumber(r)
	}
	return serial(n + r.Intn(9) - 4)
}

func small(r *rand.Rand) int {
	if r.Intn(12) == 0 {
		return anyNumber(r)
	}
	return r.Intn(10)
}

func anyBegin(r *rand.Rand) api.Perform {
	p := begin(near(r, 0), small(r), small(r), r.Intn(70))
	if r.Intn(6) == 0 {
		p = begin(anyNumber(r), anyNumber(r), anyNumber(r), anyNumber(r))
	}
	if r.Intn(20) == 0 {
		p.Kind = api.KFlow
	}
	return p
}

func anyFlow(r *rand.Rand, st api.SessionState) api.Perform {
	p := flow(near(r, st.NextOut-2), small(r), near(r, st.NextIn+1), small(r))
	if r.Intn(10) == 0 {
		p.NextIn = -1
	}
	if r.Intn(30) == 0 {
		p.Kind = api.KBegin
	}
	return p
}

// anyCall is a call with arguments by chance, most of them such as do something where the session stands so.
func anyCall(r *rand.Rand, st api.SessionState) asked {
	handle, id, settled, sending := small(r), near(r, 2), r.Intn(3) == 0, r.Intn(2) == 0
	tag := fmt.Sprint("tag", r.Intn(1000))
	switch r.Intn(15) {
	case 0:
		p := anyBegin(r)
		return asked{"Peer" + told(p), func(c calls) string { return fmt.Sprint(c.Peer(p)) }}
	case 1, 2:
		return asked{"Sent", func(c calls) string { return fmt.Sprint(c.Sent()) }}
	case 3, 4:
		return asked{"Got", func(c calls) string { return fmt.Sprint(c.Got()) }}
	case 5, 6:
		p := anyFlow(r, st)
		return asked{"Flow" + told(p), func(c calls) string { return fmt.Sprint(c.Flow(p)) }}
	case 7:
		n := small(r)
		return asked{fmt.Sprint("Widen ", n), func(c calls) string { return fmt.Sprint(c.Widen(n)) }}
	case 8:
		return asked{fmt.Sprint("Deliver ", handle, tag, settled), func(c calls) string {
			id, e := c.Deliver(handle, tag, settled)
			return fmt.Sprint(id, e)
		}}
	case 9, 10:
		return asked{fmt.Sprint("Arrive ", id, handle, tag, settled), func(c calls) string { return fmt.Sprint(c.Arrive(id, handle, tag, settled)) }}
	case 11:
		return asked{fmt.Sprint("Forget ", sending, id), func(c calls) string { return fmt.Sprint(c.Forget(sending, id)) }}
	case 12:
		return asked{"Handle", func(c calls) string {
			h, e := c.Handle()
			return fmt.Sprint(h, e)
		}}
	case 13:
		remote := small(r)
		return asked{fmt.Sprint("Remote ", remote, handle), func(c calls) string { return fmt.Sprint(c.Remote(remote, handle)) }}
	}
	if r.Intn(3) > 0 {
		n := near(r, 0)
		return asked{fmt.Sprint("the next delivery ", n), func(c calls) string {
			if isWord(n) {
				c.SetNextDelivery(n)
			}
			return ""
		}}
	}
	return asked{fmt.Sprint("Free ", handle), func(c calls) string { return fmt.Sprint(c.Free(handle)) }}
}

// looked is what all calls that change nothing tell, of any arguments.
func looked(c calls, first, last, remote int) string {
	h, is := c.Local(remote)
	return fmt.Sprintf("%+v %+v %d; from %d to %d %v %v; %d: %d %v", c.State(), c.Fields(), c.Room(), first, last, c.Range(true, first, last), c.Range(false, first, last), remote, h, is)
}

// P13.1 to P13.12: any calls in any order, held against the model behind each of them.
// P13.14: several sessions are used in turns, each with a model of its own.
func TestAnyCalls(t *testing.T) {
	r := rand.New(rand.NewSource(131))
	for range 150 {
		var sessions []*session.Session
		var models []*model
		for len(sessions) < 3 {
			own := anyBegin(r)
			s, m := session.New(own), newModel(own)
			if (s == nil) != (m == nil) {
				t.Fatalf("New(%s): %v, want %v", told(own), s, m)
			}
			if s != nil {
				sessions, models = append(sessions, s), append(models, m)
			}
		}
		for range 250 {
			i := r.Intn(len(sessions))
			s, m := sessions[i], models[i]
			a := anyCall(r, m.State())
			got, want := a.call(s), a.call(m)
			if got != want {
				t.Fatalf("%s: %s, want %s, where %+v", a.name, got, want, m.State())
			}
			for i, s := range sessions {
				first, last, remote := near(r, 0), near(r, 4), small(r)
				if got, want := looked(s, first, last, remote), looked(models[i], first, last, remote); got != want {
					t.Fatalf("behind %s: %s, want %s", a.name, got, want)
				}
			}
		}
	}
}

// The calls by chance come to all answers; else they would show little.
func TestAnyCallsComeToAll(t *testing.T) {
	r := rand.New(rand.NewSource(132))
	met := map[string]int{}
	for range 400 {
		s := session.New(begin(near(r, 0), r.Intn(10), r.Intn(10), r.Intn(10)))
		for range 100 {
			if s == nil {
				break
			}
			a := anyCall(r, s.State())
			name := a.name[:3]
			answer := a.call(s)
			if name == "Del" || name == "Han" {
				var n int
				fmt.Sscan(answer, &n, &answer)
			}
			met[name+" "+answer]++
		}
	}
	for _, want := range []string{"Pee 0", "Pee 1", "Pee 4", "Sen 0", "Sen 130", "Got 0", "Got 4", "Got 130", "Flo 0", "Flo 1", "Flo 4", "Flo 131", "Wid 0", "Wid 1", "Del 0", "Del 131", "Del 132", "Arr 0", "Arr 1", "Arr 131", "Arr 132", "For 0", "For 131", "Han 0", "Han 4", "Han 132", "Rem 0", "Rem 132", "Fre 0", "Fre 132"} {
		if met[want] < 5 {
			t.Errorf("%s: only %d times of %v", want, met[want], met)
		}
	}
}
