package link_test

import (
	"fmt"
	"math/rand"
	"slices"
	"strings"
	"testing"

	"longshore/api"
	"longshore/link"
)

// asked is a call with its arguments.
type asked struct {
	name string
	call func(c calls) string
}

func anyNumber(r *rand.Rand) int {
	if r.Intn(3) == 0 {
		return noWords[r.Intn(len(noWords))]
	}
	return words[r.Intn(len(words))]
}

// near is a number not far from another one, now and then any, or one that is alike modulo 2^32.
func near(r *rand.Rand, n int) int {
	switch r.Intn(12) {
	case 0:
		return anyNumber(r)
	case 1:
		return -1
	case 2:
		return serial(n+r.Intn(9)-4) + (r.Intn(5)-2)<<32
	}
	return serial(n + r.Intn(9) - 4)
}

func small(r *rand.Rand) int {
	if r.Intn(12) == 0 {
		return anyNumber(r)
	}
	return r.Intn(7)
}

func anyTag(r *rand.Rand) string {
	if r.Intn(15) == 0 {
		return slices.Concat(goodTags, badTags)[r.Intn(len(goodTags)+len(badTags))]
	}
	return fmt.Sprint("t", r.Intn(6))
}

// said and unsaid are made once: calls by chance take many.
var said, unsaid = anyStates(), nothing()

func anyState(r *rand.Rand) api.State {
	l := said
	if r.Intn(4) == 0 {
		l = unsaid
	}
	if r.Intn(2) == 0 {
		return l[r.Intn(2)] // so that the same is said again
	}
	return l[r.Intn(len(l))]
}

func anyConfig(r *rand.Rand) api.LinkConfig {
	c := config(r.Intn(2) == 0, r.Intn(3), r.Intn(2), serial(r.Intn(8)-4))
	switch r.Intn(20) {
	case 0:
		c.Name = long(60 + r.Intn(10))
	case 1:
		c.SndMode = r.Intn(6) - 1
	case 2:
		c.RcvMode = r.Intn(5) - 1
	case 3:
		c.InitialCount = anyNumber(r)
	case 4:
		c.MaxMessage = anyNumber(r)
	}
	return c
}

func anyFlow(r *rand.Rand, st api.LinkState) api.Perform {
	p := flow(near(r, st.Count), small(r), small(r), r.Intn(3) == 0)
	switch r.Intn(15) {
	case 0:
		p.Kind = kindsBut(api.KFlow)[r.Intn(10)]
	case 1:
		p.Credit = -1
	case 2:
		p.Available = -1
	}
	return p
}

// anyCall is a call with arguments by chance, most of them such as do something where the link stands so.
func anyCall(r *rand.Rand, st api.LinkState) asked {
	tag, settled, drain, n, s := anyTag(r), r.Intn(3) == 0, r.Intn(3) == 0, small(r), anyState(r)
	switch r.Intn(13) {
	case 0, 1:
		if !st.Receiver {
			p := flow(st.Count, n, -1, drain)
			return asked{"Flow" + told(p), func(c calls) string { return fmt.Sprint(c.Flow(p)) }}
		}
		return asked{fmt.Sprint("Grant ", n, drain), func(c calls) string { return fmt.Sprint(c.Grant(n, drain)) }}
	case 2:
		return asked{fmt.Sprint("Grant ", n, drain), func(c calls) string { return fmt.Sprint(c.Grant(n, drain)) }}
	case 3, 4:
		p := anyFlow(r, st)
		return asked{"Flow" + told(p), func(c calls) string { return fmt.Sprint(c.Flow(p)) }}
	case 5:
		return asked{fmt.Sprint("Available ", n), func(c calls) string { return fmt.Sprint(c.Available(n)) }}
	case 6:
		return asked{"Drained", func(c calls) string { return fmt.Sprint(c.Drained()) }}
	case 7, 8, 9:
		if st.Receiver != (r.Intn(12) == 0) {
			return asked{fmt.Sprintf("Got %q %v", tag, settled), func(c calls) string { return fmt.Sprint(c.Got(tag, settled)) }}
		}
		return asked{fmt.Sprintf("Send %q %v", tag, settled), func(c calls) string { return fmt.Sprint(c.Send(tag, settled)) }}
	case 10:
		return asked{fmt.Sprintf("Own %q %s %v", tag, told(s), settled), func(c calls) string { return fmt.Sprint(c.Own(tag, s, settled)) }}
	}
	return asked{fmt.Sprintf("Peer %q %s %v", tag, told(s), settled), func(c calls) string {
		news, e := c.Peer(tag, s, settled)
		return fmt.Sprint(news, e)
	}}
}

// looked is what all calls that change nothing tell, of any arguments.
func looked(c calls, tag string, handle int, peer []api.Unsettled) string {
	own, theirs, is := c.Look(tag)
	return fmt.Sprintf("%+v %+v; %q: %+v %+v %v; %+v; %+v", c.See(), c.Fields(handle), tag, own, theirs, is, c.Unsettled(), c.Resume(peer))
}

func anyLeft(r *rand.Rand) []api.Unsettled {
	var l []api.Unsettled
	for range r.Intn(6) {
		l = append(l, api.Unsettled{Tag: anyTag(r), State: anyState(r)})
	}
	return l
}

// P14.1 to P14.9: any calls in any order, held against the model behind each of them.
// DOC.md's R6: several links are used in turns, each with a model of its own; they have nothing in common.
func TestAnyCalls(t *testing.T) {
	r := rand.New(rand.NewSource(141))
	for range 150 {
		var links []*link.Link
		var models []*model
		for len(links) < 3 {
			c := anyConfig(r)
			l, m := link.New(c), newModel(c)
			if (l == nil) != (m == nil) {
				t.Fatalf("New(%s): %v, want %v", told(c), l, m)
			}
			if l != nil {
				links, models = append(links, l), append(models, m)
			}
		}
		for range 200 {
			i := r.Intn(len(links))
			l, m := links[i], models[i]
			a := anyCall(r, m.See())
			got, want := a.call(l), a.call(m)
			if got != want {
				t.Fatalf("%s: %s, want %s, where %+v", a.name, got, want, m.See())
			}
			for i, l := range links {
				tag, handle, peer := anyTag(r), near(r, 0), anyLeft(r)
				if got, want := looked(l, tag, handle, peer), looked(models[i], tag, handle, peer); got != want {
					t.Fatalf("behind %s: %s, want %s", a.name, got, want)
				}
			}
		}
	}
}

// The calls by chance come to all answers; else they would show little.
func TestAnyCallsComeToAll(t *testing.T) {
	r := rand.New(rand.NewSource(142))
	met := map[string]int{}
	for range 1000 {
		l := link.New(anyConfig(r))
		if l == nil {
			met["nil"]++
			continue
		}
		for range 100 {
			a := anyCall(r, l.See())
			name, _, _ := strings.Cut(a.name, " ")
			name, _, _ = strings.Cut(name, "{")
			answer := a.call(l)
			met[name+" "+answer]++
			met[fmt.Sprintf("Unsettled %d", len(l.Unsettled()))]++
			for _, x := range l.Resume(anyLeft(r)) {
				met[fmt.Sprintf("Resume %v %d", l.See().Receiver, x.What)]++
			}
		}
	}
	for _, want := range []string{"nil", "Grant 0", "Grant 1", "Grant 4", "Flow 0", "Flow 1", "Available 0", "Available 1", "Available 4", "Drained true", "Drained false",
		"Send 0", "Send 4", "Send 122", "Send 140", "Send 141", "Send 142", "Got 0", "Got 4", "Got 122", "Got 140", "Got 141", "Got 142", "Own 0", "Own 141", "Own 143",
		"Peer true 0", "Peer false 0", "Peer false 141", "Peer false 143", "Unsettled 3", "Resume false 1", "Resume false 2", "Resume false 3", "Resume true 1", "Resume true 4"} {
		if met[want] < 20 {
			t.Errorf("%s: only %d times of %v", want, met[want], met)
		}
	}
}

// DOC.md's R6: the same calls, the same answers, whatever was called at others.
func TestSameCallsSameAnswers(t *testing.T) {
	play := func(seed int64) string {
		r := rand.New(rand.NewSource(seed))
		l := made(t, config(seed%2 == 0, api.SndMixed, int(seed/2%2), maxWord-1))
		var b strings.Builder
		for range 300 {
			a := anyCall(r, l.See())
			b.WriteString(a.call(l) + looked(l, anyTag(r), 1, anyLeft(r)))
		}
		return b.String()
	}
	for seed := range int64(20) {
		first := play(seed)
		play(seed + 100)
		if play(seed) != first {
			t.Errorf("seed %d: other answers to the same calls", seed)
		}
	}
}

// Two links have nothing in common: what is done at the one is not seen at the other one.
func TestTwoLinks(t *testing.T) {
	for _, c := range allConfigs() {
		a, b := made(t, c), made(t, c)
		fresh := seen(b)
		for i := range 40 {
			give(t, a, 3)
			deliver(a, fmt.Sprint("t", i%5), c.SndMode == api.SndSettled)
			a.Own(fmt.Sprint("t", i%3), accepted, i%2 == 0)
			a.Peer(fmt.Sprint("t", i%4), received, i%3 == 0)
			a.Available(i)
			a.Drained()
			if got := seen(b); got != fresh {
				t.Fatalf("%s, before: %s", got, fresh)
			}
		}
		kept := seen(a)
		if got, want := probed(b), probed(made(t, c)); got != want {
			t.Errorf("%s, want %s", got, want)
		}
		if got := seen(a); got != kept {
			t.Errorf("%s, before: %s", got, kept)
		}
	}
}

// DOC.md's R1: every call ends and none panics, at all arguments; the numbers stay words.
func TestExtremes(t *testing.T) {
	numbers := slices.Concat(words, noWords)
	for _, c := range allConfigs() {
		for _, l := range []*link.Link{made(t, c), busy(t, c)} {
			for _, a := range numbers {
				for _, b := range numbers {
					l.Flow(flow(a, b, b, a > b))
					l.Grant(b, a < b)
					l.Available(a)
					for i := range 3 {
						deliver(l, fmt.Sprint(a, i), b > 5)
					}
					l.Drained()
					l.Own(fmt.Sprint(b, 1), api.State{Kind: a, Section: b}, a > b)
					l.Peer(fmt.Sprint(b, 2), api.State{Kind: b, Offset: a}, a > b)
					wantWords(t, l)
				}
			}
		}
	}
}

func wantWords(t *testing.T, l *link.Link) {
	t.Helper()
	st := l.See()
	if st.Count != serial(st.Count) || st.Available != serial(st.Available) || st.Credit < 0 || st.Credit > mostCredit || st.Unsettled < 0 {
		t.Fatalf("%+v", st)
	}
}
