package route_test

import (
	"fmt"
	"math/rand"
	"slices"
	"strings"
	"testing"

	"longshore/api"
	"longshore/route"
)

// asked is a call with its arguments.
type asked struct {
	name string
	call func(c calls) string
}

func anyOf[T any](r *rand.Rand, l ...T) T { return l[r.Intn(len(l))] }

// anyTopic is mostly a topic of few words.
func anyTopic(r *rand.Rand) string {
	if r.Intn(12) == 0 {
		return anyOf(r, slices.Concat(badTopics(), badPatterns(), goodPatterns(), badWords())...)
	}
	return anyRow(r, 1+r.Intn(anyOf(r, 3, 8)), "a", "b", "c")
}

// anyPattern is mostly a pattern of few words.
func anyPattern(r *rand.Rand) string {
	if r.Intn(12) == 0 {
		return anyOf(r, slices.Concat(badTopics(), badPatterns(), badWords())...)
	}
	return anyRow(r, 1+r.Intn(anyOf(r, 2, 3, 8)), "a", "b", "*", "#")
}

// anyQueue is mostly one of few queues.
func anyQueue(r *rand.Rand) string {
	switch r.Intn(12) {
	case 0:
		return anyOf(r, badNames()...)
	case 1:
		return anyOf(r, goodNames()...)
	}
	return anyOf(r, "q", "r", "s", "q.1", "q-1")
}

// anyCall is a call with arguments by chance, most of them such as do something where these bindings are.
func anyCall(r *rand.Rand, here []api.Binding) asked {
	b := binding(anyPattern(r), anyQueue(r))
	if len(here) > 0 && r.Intn(3) == 0 {
		b = anyOf(r, here...)
	}
	switch r.Intn(12) {
	case 0, 1, 2, 3, 4, 5:
		return asked{"Bind " + told(b), func(c calls) string { return fmt.Sprint(c.Bind(b)) }}
	case 6, 7:
		return asked{"Unbind " + told(b), func(c calls) string { return fmt.Sprint(c.Unbind(b)) }}
	case 8:
		return asked{"Drop " + told(b.Queue), func(c calls) string { return fmt.Sprint(c.Drop(b.Queue)) }}
	case 9:
		return asked{"Bindings", func(c calls) string { return told(c.Bindings()) }}
	}
	topic := anyTopic(r)
	return asked{"Match " + brief(topic), func(c calls) string { l, e := c.Match(topic); return fmt.Sprintf("%d %d %q", e, len(l), l) }}
}

// P18.1, P18.2: any calls in any order, held against the model behind each of them.
// DOC.md's R6: several routers are used in turns, each with a model of its own; they have nothing in common.
func TestAnyCalls(t *testing.T) {
	r := rand.New(rand.NewSource(185))
	for range 40 {
		routers := []*route.Router{made(t), made(t), made(t)}
		models := []*model{{}, {}, {}}
		for range 150 {
			i := r.Intn(len(routers))
			a := anyCall(r, models[i].list)
			if got, want := a.call(routers[i]), a.call(models[i]); got != want {
				t.Fatalf("%s: %s, want %s, where %s", a.name, got, want, told(models[i].list))
			}
			for i, m := range models {
				wantBindings(t, routers[i], m.Bindings()...)
			}
		}
		for i, m := range models {
			if got, want := seen(routers[i]), seen(m); got != want {
				t.Fatalf("%s, want %s", got, want)
			}
		}
	}
}

// P18.1, P18.2: any calls at a router that is full, or nearly so.
func TestAnyCallsOfFull(t *testing.T) {
	r := rand.New(rand.NewSource(186))
	router, m := full(t), &model{}
	for i := range maxBinds {
		wantErrno(t, "the model", m.Bind(fullBinding(i)), api.OK)
	}
	met := map[string]int{}
	for range 400 {
		a := anyCall(r, m.list)
		if strings.HasPrefix(a.name, "Drop") {
			continue
		}
		got, want := a.call(router), a.call(m)
		if got != want {
			t.Fatalf("%s: %s, want %s", a.name, got, want)
		}
		met[want]++
		wantBindings(t, router, m.Bindings()...)
	}
	if met["0"] < 30 || met["183"] < 10 || met["181"] < 10 {
		t.Errorf("only %d, %d, %d", met["0"], met["183"], met["181"])
	}
}

// The calls by chance come to all answers; else they would show little.
func TestAnyCallsComeToAll(t *testing.T) {
	r := rand.New(rand.NewSource(187))
	met := map[string]int{}
	for range 60 {
		m := &model{}
		for range 100 {
			a := anyCall(r, m.list)
			name, _, _ := strings.Cut(a.name, " ")
			answer := a.call(m)
			if name == "Match" {
				answer = strings.Join(strings.Fields(answer)[:2], " ")
			}
			met[name+" "+answer]++
		}
	}
	for _, want := range []string{"Bind 0", "Bind 82", "Bind 180", "Bind 181", "Unbind 0", "Unbind 182", "Drop 0", "Drop 1", "Drop 2", "Match 82 0", "Match 0 0", "Match 0 1", "Match 0 2", "Match 0 3"} {
		if met[want] < 20 {
			t.Errorf("%s: only %d times", want, met[want])
		}
	}
}

// P18.3, P18.4: any texts, held against the model.
func TestAnyTexts(t *testing.T) {
	r := rand.New(rand.NewSource(188))
	met := map[string]int{}
	for range 20000 {
		pattern, topic := anyText(r), anyText(r)
		is, e := route.Fits(pattern, topic)
		wantIs, wantE := model{}.Fits(pattern, topic)
		if is != wantIs || e != wantE {
			t.Fatalf("Fits(%q, %q): %v, %d, want %v, %d", pattern, topic, is, e, wantIs, wantE)
		}
		met[fmt.Sprint("Fits ", is, e)]++
		if _, e := route.Covers(pattern, topic); (e == api.OK) != (isPattern(pattern) && isPattern(topic)) || e != api.OK && e != api.ErrPattern {
			t.Fatalf("Covers(%q, %q): %d", pattern, topic, e)
		}
		text := anyOf(r, "", "queue", "topic", "txns", "queue", "topic") + anyOf(r, "/", "/", "/", "", ".") + anyOf(r, topic, topic, "")
		kind, rest, e := route.Address(text)
		wantKind, wantRest, wantE := model{}.Address(text)
		if kind != wantKind || rest != wantRest || e != wantE {
			t.Fatalf("Address(%q): %d, %q, %d, want %d, %q, %d", text, kind, rest, e, wantKind, wantRest, wantE)
		}
		met[fmt.Sprint("Address ", kind)]++
	}
	for _, want := range []string{"Fits true 0", "Fits false 0", "Fits false 82", "Fits false 180", "Address 0", "Address 1", "Address 2", "Address 3"} {
		if met[want] < 200 {
			t.Errorf("%s: only %d times of %v", want, met[want], met)
		}
	}
}

// anyText is a topic, a pattern, or one of these with a byte more, less, or another one.
func anyText(r *rand.Rand) string {
	s := []byte(anyOf(r, anyTopic, anyPattern)(r))
	for range anyOf(r, 0, 0, 1, 2) {
		at, b := r.Intn(len(s)+1), anyOf(r, []byte("ab.*#-_/A \x00\xff")...)
		if at == len(s) || r.Intn(2) == 0 {
			s = slices.Insert(s, at, b)
		} else if r.Intn(2) == 0 {
			s = slices.Delete(s, at, at+1)
		} else {
			s[at] = b
		}
	}
	return string(s)
}

// DOC.md's R6: the same calls, the same answers, whatever was called at others.
func TestSameCallsSameAnswers(t *testing.T) {
	play := func(seed int64) string {
		r := rand.New(rand.NewSource(seed))
		router := made(t)
		var b strings.Builder
		for range 100 {
			b.WriteString(anyCall(r, router.Bindings()).call(router) + seen(router))
		}
		return b.String()
	}
	for seed := range int64(10) {
		first := play(seed)
		play(seed + 100)
		if play(seed) != first {
			t.Errorf("seed %d: other answers to the same calls", seed)
		}
	}
}

// Two routers with the same bindings have nothing in common.
func TestTwoRouters(t *testing.T) {
	a, b := busy(t), busy(t)
	stood := seen(b)
	r := rand.New(rand.NewSource(189))
	for range 300 {
		anyCall(r, a.Bindings()).call(a)
		if seen(b) != stood {
			t.Fatalf("%s, before: %s", seen(b), stood)
		}
	}
	for _, x := range a.Bindings() {
		a.Drop(x.Queue)
	}
	wantBindings(t, a)
	if probed(b) != probed(busy(t)) {
		t.Error("the other one has changed")
	}
	wantBindings(t, a)
}
