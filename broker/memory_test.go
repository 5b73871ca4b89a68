package broker_test

import (
	"cmp"
	"fmt"
	"math/rand"
	"reflect"
	"runtime"
	"slices"
	"strings"
	"sync"
	"testing"
	"time"

	"longshore/api"
	"longshore/broker"
	"longshore/sample"
	"longshore/store"
)

// lies is where a list lies, up to the end of its room.
type lies struct{ first, behind uintptr }

// places are where all lists in something lie, those that stand in the room behind others too.
func places(x any) []lies {
	var l []lies
	walk(reflect.ValueOf(x), func(list reflect.Value) {
		first := list.Pointer()
		l = append(l, lies{first, first + uintptr(list.Len())*list.Type().Elem().Size()})
	})
	return l
}

// walk tells of all lists in something, each up to the end of its room, ahead of what stands in it.
func walk(v reflect.Value, tell func(reflect.Value)) {
	switch v.Kind() {
	case reflect.Struct:
		for i := range v.NumField() {
			walk(v.Field(i), tell)
		}
	case reflect.Slice:
		if v.Cap() == 0 {
			return
		}
		list := v.Slice(0, v.Cap())
		tell(list)
		for i := range list.Len() {
			walk(list.Index(i), tell)
		}
	}
}

// areApart tells whether no two lists share memory.
func areApart(l ...[]lies) bool {
	all := slices.Concat(l...)
	slices.SortFunc(all, func(a, b lies) int { return cmp.Compare(a.first, b.first) })
	for i := 1; i < len(all); i++ {
		if all[i].first < all[i-1].behind {
			return false
		}
	}
	return true
}

// scribble overwrites all lists in something, with their room.
func scribble(x any) {
	walk(reflect.ValueOf(x), func(list reflect.Value) {
		for i := range list.Len() {
			overwrite(list.Index(i))
		}
	})
}

func overwrite(v reflect.Value) {
	switch v.Kind() {
	case reflect.Uint8, reflect.Uint64:
		v.SetUint('#')
	case reflect.Int:
		v.SetInt(77)
	case reflect.Bool:
		v.SetBool(!v.Bool())
	case reflect.String:
		v.SetString("scribbled")
	case reflect.Struct:
		for i := range v.NumField() {
			overwrite(v.Field(i))
		}
	}
}

// withRoom is something as text, with what stands in the room behind its lists.
func withRoom(x any) string {
	s := told(x)
	walk(reflect.ValueOf(x), func(list reflect.Value) { s += told(list.Interface()) })
	return s
}

// roomy are bytes with room to spare in which marks stand.
func roomy(b []byte) []byte { return append(slices.Clone(b), "mark"...)[:len(b)] }

// The helpers above see what they are to see.
func TestRoomIsSeen(t *testing.T) {
	b, f := roomy([]byte("abc")), api.Fault{Cond: "x", Info: sample.Pairs(sample.Text(api.Symbol, "k"), sample.Within(2, sample.Num(api.Uint, 7)))}
	before := withRoom(b) + withRoom(f)
	if !areApart(places(b), places(f)) || areApart(places(b), places(b[:1])) || len(places(f)) != 3 {
		t.Error("places")
	}
	b[:4][3]++
	if after := withRoom(b) + withRoom(f); after == before {
		t.Errorf("a change is not seen: %s", after)
	}
	scribble(b)
	scribble(f)
	if string(b[:7]) != "#######" || f.Info.List[1].Num != '#' {
		t.Errorf("scribbled over: %q, %s", b[:7], told(f))
	}
}

// careless is a broker whose user hands in lists with marks in their room, and overwrites them when the call has answered, as well as all that was answered, at once or later; it wants that what is handed in stays as it was, and that no answer is changed by anything.
type careless struct {
	calls
	t      *testing.T
	r      *rand.Rand
	before []answer
}

// answer is one that is kept for a while, as it was told.
type answer struct {
	is   any
	text string
}

func took[T any](c *careless, x T) T {
	c.t.Helper()
	own := copied(x)
	for _, a := range c.before {
		if !areApart(places(a.is), places(x)) {
			c.t.Fatal("two answers share memory")
		}
	}
	c.before = append(c.before, answer{x, withRoom(x)})
	for len(c.before) > 6 {
		a := c.before[0]
		c.before = c.before[1:]
		if withRoom(a.is) != a.text {
			c.t.Fatalf("an answer was changed: %s, before: %s", withRoom(a.is), a.text)
		}
		scribble(a.is)
	}
	if c.r.Intn(2) == 0 {
		scribble(x)
		c.before = c.before[:len(c.before)-1]
	}
	return own
}

// copied is a copy that shares nothing.
func copied[T any](x T) T { return copyOf(reflect.ValueOf(x)).Interface().(T) }

func copyOf(v reflect.Value) reflect.Value {
	c := reflect.New(v.Type()).Elem()
	c.Set(v)
	switch v.Kind() {
	case reflect.Struct:
		for i := range v.NumField() {
			c.Field(i).Set(copyOf(v.Field(i)))
		}
	case reflect.Slice:
		c.Set(reflect.MakeSlice(v.Type(), v.Len(), v.Len()))
		for i := range v.Len() {
			c.Index(i).Set(copyOf(v.Index(i)))
		}
	}
	return c
}

func (c *careless) Join(x api.ConnConfig) (int, api.Errno) {
	x.Users = append(slices.Clone(x.Users), api.User{Name: "mark"})[:len(x.Users)]
	before := withRoom(x)
	n, e := c.calls.Join(x)
	if after := withRoom(x); after != before {
		c.t.Fatalf("handed in, it is %s, before: %s", after, before)
	}
	scribble(x)
	return n, e
}

func (c *careless) Feed(n int, chunk []byte) api.Errno {
	x := roomy(chunk)
	before := withRoom(x)
	e := c.calls.Feed(n, x)
	if withRoom(x) != before {
		c.t.Fatal("handed in, bytes were changed")
	}
	scribble(x)
	return e
}

func (c *careless) Out(n int) []byte { return took(c, c.calls.Out(n)) }

func (c *careless) Conns() []int { return took(c, c.calls.Conns()) }

func (c *careless) Over(n int) (bool, api.Fault) {
	over, f := c.calls.Over(n)
	return over, took(c, f)
}

// P23.14, DOC.md's R2: any calls, whose user changes all lists that it has: the broker, its store and its answers are as if it had not.
func TestCareless(t *testing.T) {
	for seed := range int64(15) {
		w := &chance{Rand: rand.New(rand.NewSource(seed)), wild: seed%2 == 0}
		r := rand.New(rand.NewSource(seed))
		a := staged(t, maxDisk, ofBroker)
		b := staged(t, maxDisk, func(s *store.Store) calls { return &careless{broker.New(s), t, r, nil} })
		steps := w.first()
		for n := range 200 {
			if n >= len(steps) {
				steps = append(steps, w.next())
			}
			x := steps[n]
			if got, want := x.do(b), x.do(a); got != want {
				t.Fatalf("seed %d, %d: %s: %s, want %s", seed, n, x.name, got, want)
			}
			for c := range maxConns + 1 {
				got, want := b.b.Out(c), a.b.Out(c)
				if string(got) != string(want) {
					t.Fatalf("seed %d, %d: behind %s: connection %d:%s\nwant%s", seed, n, x.name, c, lines(got), lines(want))
				}
				w.hears(c, got)
			}
			if n%20 == 0 && a.all() != b.all() {
				t.Fatalf("seed %d, %d: behind %s:\n%s\nwant\n%s", seed, n, x.name, b.all(), a.all())
			}
		}
	}
}

// P23.14, DOC.md's R2: a fault with which a connection is over shares nothing with what came, nor with another answer.
func TestFaultsShareNothing(t *testing.T) {
	r := made(t)
	p := r.join()
	f := api.Fault{Cond: "enough", Text: "why", Info: sample.Pairs(sample.Text(api.Symbol, "k"), sample.Within(3, sample.Num(api.Uint, 7)))}
	wantErrno(t, "Close", p.c.Close(f), api.OK)
	b := p.c.Out()
	p.feeds(b)
	scribble(b)
	_, first := r.b.Over(1)
	_, second := r.b.Over(1)
	if told(first) != told(f) || !areApart(places(first), places(second)) {
		t.Errorf("%s", told(first))
	}
	scribble(first)
	if _, third := r.b.Over(1); told(second) != told(f) || told(third) != told(f) {
		t.Errorf("%s, %s", told(second), told(third))
	}
}

// DOC.md's R2: the messages of a store are its own: those that it tells, and the bytes that come and go, may be overwritten.
func TestMessagesAreOwn(t *testing.T) {
	r := made(t, declare(lasting("q", 9)), declare(lasting("z", 9)), bind("t", "q"), bind("t", "z"))
	p := r.join()
	p.sendsOnly(p.sender("s", "topic/t"), "t", text("x", 4, durable), true, none)
	b := p.c.Out()
	p.feeds(b)
	scribble(b)
	for _, queue := range []string{"q", "z"} {
		scribble(r.s.Entries(queue))
	}
	r.lies("q", "1/4 x durable")
	r.lies("z", "2/4 x durable")
	p.credits(p.receiver("r", "queue/q", copying), 9)
	p.feeds(p.c.Out())
	scribble(r.b.Out(p.n))
	r.lies("q", "1/4 x durable")
}

// DOC.md's R6: two brokers of two stores, used in turns, have nothing in common.
func TestTwoBrokers(t *testing.T) {
	for seed := range int64(10) {
		play := func(together bool) string {
			var ws [2]*chance
			var xs [2]stage
			var steps [2][]step
			for i := range 2 {
				ws[i] = &chance{Rand: rand.New(rand.NewSource(seed*2 + int64(i))), wild: true}
				steps[i] = ws[i].first()
			}
			turn := func(i, n int) {
				if n == 0 {
					xs[i] = staged(t, maxDisk, ofBroker)
				}
				if n >= len(steps[i]) {
					steps[i] = append(steps[i], ws[i].next())
				}
				steps[i][n].do(xs[i])
				for c := range maxConns + 1 {
					ws[i].hears(c, xs[i].b.Out(c))
				}
			}
			for n := range 150 {
				if together {
					turn(0, n)
					turn(1, n)
				}
			}
			for i := range 2 {
				for n := range 150 {
					if !together {
						turn(i, n)
					}
				}
			}
			return xs[0].all() + xs[1].all()
		}
		if a, b := play(true), play(false); a != b {
			t.Fatalf("seed %d: in turns %s\none behind the other %s", seed, a, b)
		}
	}
}

// DOC.md: brokers of different stores may be used by different goroutines.
func TestManyAtOnce(t *testing.T) {
	var wait sync.WaitGroup
	told := make([]string, 8)
	for i := range told {
		wait.Go(func() {
			w := &chance{Rand: rand.New(rand.NewSource(5))}
			x := staged(t, maxDisk, ofBroker)
			steps := w.first()
			for n := range 150 {
				if n >= len(steps) {
					steps = append(steps, w.next())
				}
				steps[n].do(x)
				for c := range maxConns + 1 {
					w.hears(c, x.b.Out(c))
				}
			}
			told[i] = x.all()
		})
	}
	wait.Wait()
	for _, s := range told {
		if s != told[0] {
			t.Errorf("%s\nand %s", s, told[0])
		}
	}
}

// inUse is how many bytes are in use.
func inUse() uint64 {
	var m runtime.MemStats
	runtime.GC()
	runtime.GC()
	runtime.ReadMemStats(&m)
	return m.HeapAlloc
}

// wantInUse wants hardly more bytes in use than before.
func wantInUse(t *testing.T, what string, before uint64) {
	t.Helper()
	if after := inUse(); after > before+1<<19 {
		t.Errorf("%s: %d bytes are in use, before: %d", what, after, before)
	}
}

// LANGUAGE.md's rule 8: of deliveries that are done with, of messages that went, of what was refused nothing is kept; nor of links and connections that ended.
func TestGoneIsNotKept(t *testing.T) {
	r := made(t, declare(dying(passing("q", 9), "", 1)))
	p := r.join(func(own, peer *api.ConnConfig) {
		own.Window, peer.Window, own.MaxFrame, peer.MaxFrame = 65535, 65535, 65536, 65536
	})
	s, x := p.sender("s", "queue/q"), p.sender("x", "txns")
	l := p.receiver("r", "queue/q")
	great := text(strings.Repeat("x", 900000), 4)
	before := inUse()
	for i := range 6 {
		p.sendsSettled(s, "t", great, none)
		p.credits(l, 1)
		p.move()
		p.seen = nil
		p.answers(l, i, []api.State{accepted, rejected("no"), failed}[i%3])
		p.sends(x, "o", great, rejected("not-implemented"))
		p.sendsAs(s, "o", great, within("t99"), within("t99", rejected("not-found")))
	}
	wantInUse(t, "messages", before)
	for i := range 3000 {
		p.sendsSettled(s, "t", text("x", 4), none)
		p.credits(l, 1)
		p.move()
		p.seen = nil
		p.says(l, 6+i, accepted, i%2 == 0)
		p.move()
		p.seen = nil
	}
	wantInUse(t, "deliveries", before)
	for i, turns := range [][]func(p *api.Perform){{settling}, {settling, copying}} {
		k := p.attachesOnly(0, receives("k", "queue/q", turns...))
		p.move()
		p.credits(k, 30000)
		p.move()
		for range 30000 {
			n := r.s.Next()
			r.apply(put("q", entry(n, 4, nil)))
			wantErrno(t, "Tick", r.b.Tick(0), api.OK)
			if i == 1 {
				r.apply(remove("q", n))
			}
			p.c.Feed(r.b.Out(p.n))
		}
		wantInUse(t, "deliveries that were settled", before)
		p.seen = nil
		p.detaches(k)
	}
	for i := range 300 {
		k := p.attachesOnly(0, receives("k", "topic/"+strings.Repeat("a.", 7)+"a", filtered("colour = '"+strings.Repeat("x", 3000)+"'")))
		p.move()
		p.seen = nil
		p.detaches(k)
		k = p.attachesOnly(0, sends("k", fmt.Sprint("topic/a", i)))
		p.move()
		p.seen = nil
		p.detaches(k)
	}
	wantInUse(t, "links", before)
	for range 100 {
		n, _ := r.b.Join(server())
		r.b.Feed(n, slices.Concat(mainHeader, framed(0, with(api.KOpen, func(p *api.Perform) { p.Id = "c" })), framed(0, with(api.KBegin, func(p *api.Perform) { p.InWin, p.OutWin, p.HandleMax = 9, 9, 9 }))))
		r.b.Feed(n, framed(0, receives("r", "queue/q")))
		r.b.Feed(n, framed(0, sends("s", "queue/q", func(p *api.Perform) { p.Handle = 1 })))
		r.b.Feed(n, make([]byte, 0, 1<<20)[:3])
		wantErrno(t, "Leave", r.b.Leave(n), api.OK)
	}
	wantInUse(t, "connections", before)
	runtime.KeepAlive(r)
}

// DOC.md's R1: every call ends, in little time: with as many connections as may be, many links, a full queue in which nothing fits a filter, and one that all want.
func TestGreat(t *testing.T) {
	began := time.Now()
	r := made(t, declare(passing("q", maxQueue)), declare(passing("z", maxQueue)))
	wide := func(own, peer *api.ConnConfig) { own.Window, peer.Window = 65535, 65535 }
	var peers []*peer
	for range maxConns {
		p := r.join(wide)
		peers = append(peers, p)
		for i := range 16 {
			l := p.attachesOnly(0, receives(fmt.Sprint("l", i), "queue/q"))
			p.attachesOnly(0, receives(fmt.Sprint("f", i), "queue/z", filtered("colour = 'red'")))
			p.move()
			p.credits(l, 16)
			p.credits(l+1, 16)
			p.move()
			p.seen = nil
		}
	}
	var ops []api.Op
	for i := range maxQueue {
		ops = append(ops, put("q", entry(i+1, i%10, text(fmt.Sprint(i), 4))))
	}
	for i := range 100 {
		ops = append(ops, put("z", entry(maxQueue+i+1, i%10, text(fmt.Sprint(i), 4, coloured("blue")))))
	}
	r.apply(ops...)
	wantErrno(t, "Tick", r.b.Tick(1), api.OK)
	held := map[int]int{}
	for _, e := range r.s.Entries("q") {
		held[e.Holder]++
	}
	if held[0] > 0 || len(held) != 256 {
		t.Errorf("%d holders, %d free", len(held), held[0])
	}
	r.move()
	for _, p := range peers {
		if len(p.seen) != 256 {
			t.Errorf("%d came", len(p.seen))
		}
		p.leaves()
	}
	for _, e := range r.s.Entries("q") {
		if e.Holder != 0 {
			t.Fatalf("held: %s", lying(e))
		}
	}
	if took := time.Since(began); took > 60*time.Second {
		t.Errorf("%v", took)
	}
}

// DOC.md's R1: no call panics, whatever it is given.
func TestFarArguments(t *testing.T) {
	far := []int{-1 << 63, -1<<63 + 1, -1 << 32, -1, 0, 2, 17, 1 << 32, 1 << 62, 1<<63 - 1}
	r := rand.New(rand.NewSource(23))
	g, p, _ := waiting(t)
	for _, n := range far {
		for _, b := range [][]byte{nil, mainHeader, make([]byte, 1000)} {
			wantErrno(t, "Feed", g.b.Feed(n, b), api.ErrNoConn)
		}
		wantErrno(t, "Leave", g.b.Leave(n), api.ErrNoConn)
		over, f := g.b.Over(n)
		if over || told(f) != "{ }" || len(g.b.Out(n)) > 0 {
			t.Errorf("connection %d", n)
		}
		wantErrno(t, "Tick", g.b.Tick(n), api.OK)
		c := server()
		c.Seed, c.Idle, c.Window, c.MaxFrame, c.ChannelMax = n, n, n, n, n
		g.b.Join(c)
		c = server()
		c.Guarded, c.Seed, c.Users = true, n, []api.User{{Name: "\xff", Secret: strings.Repeat("x", 100)}}
		g.b.Join(c)
	}
	p.wants("got 0.0 #0 x")
	for range 300 {
		n, e := g.b.Join(server())
		wantErrno(t, "Join", e, api.OK)
		b := make([]byte, r.Intn(200))
		r.Read(b)
		wantErrno(t, "Feed", g.b.Feed(n, append(slices.Clone(mainHeader), b...)), api.OK)
		g.b.Out(n)
		wantErrno(t, "Leave", g.b.Leave(n), api.OK)
	}
}
