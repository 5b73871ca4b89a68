package conn_test

import (
	"cmp"
	"fmt"
	"math/rand"
	"reflect"
	"runtime"
	"slices"
	"strings"
	"testing"
	"weak"

	"longshore/api"
	"longshore/conn"
)

// lies is where a list lies, up to the end of its room.
type lies struct{ first, behind uintptr }

// places are where all lists in something lie, those that stand in the room behind others too.
func places(x any) []lies {
	var l []lies
	walk(reflect.ValueOf(x), func(list reflect.Value) {
		first := list.Pointer()
		l = append(l, lies{first, first + uintptr(list.Len())*list.Type().Elem().Size()})
	})
	return l
}

// walk tells of all lists in something, each up to the end of its room, ahead of what stands in it.
func walk(v reflect.Value, tell func(reflect.Value)) {
	switch v.Kind() {
	case reflect.Struct:
		for i := range v.NumField() {
			walk(v.Field(i), tell)
		}
	case reflect.Slice:
		if v.Cap() == 0 {
			return
		}
		list := v.Slice(0, v.Cap())
		tell(list)
		for i := range list.Len() {
			walk(list.Index(i), tell)
		}
	}
}

// apart tells whether no two lists share memory.
func apart(l ...[]lies) bool {
	all := slices.Concat(l...)
	slices.SortFunc(all, func(a, b lies) int { return cmp.Compare(a.first, b.first) })
	for i := 1; i < len(all); i++ {
		if all[i].first < all[i-1].behind {
			return false
		}
	}
	return true
}

// roomy is a copy all lists of which, empty ones too, have room to spare in which marks stand.
func roomy[T any](x T) T { return withMarks(reflect.ValueOf(x), 3).Interface().(T) }

// copied is a copy that shares nothing.
func copied[T any](x T) T { return withMarks(reflect.ValueOf(x), 0).Interface().(T) }

func withMarks(v reflect.Value, room int) reflect.Value {
	c := reflect.New(v.Type()).Elem()
	c.Set(v)
	switch v.Kind() {
	case reflect.Struct:
		for i := range v.NumField() {
			c.Field(i).Set(withMarks(v.Field(i), room))
		}
	case reflect.Slice:
		n := v.Len()
		c.Set(reflect.MakeSlice(v.Type(), n+room, n+room))
		for i := range n {
			c.Index(i).Set(withMarks(v.Index(i), room))
		}
		for i := n; i < n+room; i++ {
			overwrite(c.Index(i))
		}
		c.Set(c.Slice(0, n))
	}
	return c
}

// overwrite overwrites something; lists in it are not looked at.
func overwrite(v reflect.Value) {
	switch v.Kind() {
	case reflect.Struct:
		for i := range v.NumField() {
			overwrite(v.Field(i))
		}
	case reflect.String:
		v.SetString("mark")
	case reflect.Int:
		v.SetInt(77)
	case reflect.Uint64, reflect.Uint8:
		v.SetUint(77)
	case reflect.Bool:
		v.SetBool(true)
	}
}

// scribble overwrites all lists in something, with their room.
func scribble(x any) {
	var all []reflect.Value
	walk(reflect.ValueOf(x), func(list reflect.Value) { all = append(all, list) })
	for _, list := range all {
		for i := range list.Len() {
			overwrite(list.Index(i))
		}
	}
}

// withRoom is something as text, with what stands in the room behind its lists.
func withRoom(x any) string {
	s := told(x)
	walk(reflect.ValueOf(x), func(list reflect.Value) { s += told(list.Interface()) })
	return s
}

// The helpers above see what they are to see.
func TestRoomIsSeen(t *testing.T) {
	p := full(attachOf("l", 0, true))
	c := roomy(p)
	before := withRoom(c)
	if told(c) != told(p) || told(copied(p)) != told(p) || !apart(places(c), places(p), places(copied(p))) || apart(places(c), places(c)) {
		t.Errorf("a copy with room: %s", before)
	}
	c.Unsettled[:cap(c.Unsettled)][len(c.Unsettled)].State.Section++
	if told(c) != told(p) || withRoom(c) == before {
		t.Errorf("what changes in the room is not seen: %s", before)
	}
	scribble(c)
	if c.Unsettled[0].Tag != "mark" || c.Props.List[0].Text != "mark" || c.Source.Caps[0] != "mark" {
		t.Errorf("scribbled over: %s", withRoom(c))
	}
}

// full is an Attach with lists wherever it may have some.
func full(p api.Perform) api.Perform {
	p.Props = nested(4)
	p.Source = api.Terminus{Kind: api.KSource, Outcomes: []string{"longshore:accepted:list"}, Caps: []string{"a", "b"}, Default: fullState()}
	p.Target = api.Terminus{Kind: api.KTarget, Caps: []string{"c"}}
	p.Unsettled = []api.Unsettled{{Tag: "t", State: api.State{Kind: api.KTransactional, Txn: "t", Inner: []api.State{fullState()}}}, {Tag: "u"}}
	return p
}

func fullState() api.State { return api.State{Kind: api.KModified, Ann: nested(3)} }

func fullFault() api.Fault { return api.Fault{Cond: "x", Text: "why", Info: nested(4)} }

// careless is an end whose user hands in lists with marks in their room, and overwrites them when the call has answered, as well as all that was answered, at once or later; it wants that what is handed in stays as it was, and that no answer is changed by anything.
type careless struct {
	*conn.Conn
	t      *testing.T
	r      *rand.Rand
	before []answer
}

// answer is one that is kept for a while, as it was told.
type answer struct {
	is   any
	text string
}

// took is what was answered, as told then; lists in it share nothing.
func took[T any](c *careless, x T) T {
	c.t.Helper()
	if !apart(places(x)) {
		c.t.Fatalf("lists of one answer share memory: %s", told(x))
	}
	own := copied(x)
	c.before = append(c.before, answer{x, withRoom(x)})
	for len(c.before) > 6 {
		a := c.before[0]
		c.before = c.before[1:]
		if withRoom(a.is) != a.text {
			c.t.Fatalf("an answer was changed: %s, before: %s", withRoom(a.is), a.text)
		}
		scribble(a.is)
	}
	if c.r.Intn(2) == 0 {
		scribble(x)
		c.before = c.before[:len(c.before)-1]
	}
	return own
}

// given hands something in, and overwrites it then.
func given[T any](c *careless, x T, call func(x T)) {
	c.t.Helper()
	own := roomy(x)
	before := withRoom(own)
	call(own)
	if after := withRoom(own); after != before {
		c.t.Fatalf("handed in, it is %s, before: %s", after, before)
	}
	scribble(own)
}

func (c *careless) Feed(chunk []byte) (l []api.Event) {
	given(c, chunk, func(x []byte) { l = took(c, c.Conn.Feed(x)) })
	return l
}

func (c *careless) Tick(now int) []api.Event { return took(c, c.Conn.Tick(now)) }

func (c *careless) Out() []byte { return took(c, c.Conn.Out()) }

func (c *careless) Close(f api.Fault) (e api.Errno) {
	given(c, f, func(x api.Fault) { e = c.Conn.Close(x) })
	return e
}

func (c *careless) End(channel int, f api.Fault) (e api.Errno) {
	given(c, f, func(x api.Fault) { e = c.Conn.End(channel, x) })
	return e
}

func (c *careless) Attach(channel int, p api.Perform) (handle int, e api.Errno) {
	given(c, p, func(x api.Perform) { handle, e = c.Conn.Attach(channel, x) })
	return handle, e
}

func (c *careless) Detach(channel, handle int, closed bool, f api.Fault) (e api.Errno) {
	given(c, f, func(x api.Fault) { e = c.Conn.Detach(channel, handle, closed, x) })
	return e
}

func (c *careless) Send(channel, handle int, tag string, data []byte, settled bool, s api.State) (id int, e api.Errno) {
	given(c, data, func(x []byte) {
		given(c, s, func(y api.State) { id, e = c.Conn.Send(channel, handle, tag, x, settled, y) })
	})
	return id, e
}

func (c *careless) Settle(channel, handle int, tag string, s api.State, settled bool) (e api.Errno) {
	given(c, s, func(x api.State) { e = c.Conn.Settle(channel, handle, tag, x, settled) })
	return e
}

func (c *careless) Links(channel int) []api.LinkState { return took(c, c.Conn.Links(channel)) }

func (c *careless) Handles(channel int) []int { return took(c, c.Conn.Handles(channel)) }

func (c *careless) Channels() []int { return took(c, c.Conn.Channels()) }

func (c *careless) Over() (bool, api.Fault) {
	over, f := c.Conn.Over()
	return over, took(c, f)
}

// P15.21, DOC.md's R2: any calls, whose user changes all lists that it has: the end and its answers are as if it had not.
func TestCareless(t *testing.T) {
	r := rand.New(rand.NewSource(1521))
	met := map[string]int{}
	var c *careless
	var w *twin
	for range 5000 {
		if w == nil || w.m.isOver && r.Intn(4) == 0 {
			config := anyConfig(r)
			w = &twin{chance{r, newModel(config)}, nil, nil, met}
			given(&careless{t: t}, config, func(x api.ConnConfig) { c = &careless{made(t, x), t, r, nil} })
		}
		d := w.feed(w.says())
		if useful := w.useful(); len(useful) > 0 && r.Intn(4) > 0 {
			d = useful[r.Intn(len(useful))]()
		} else if !w.m.wasOpened || r.Intn(2) == 0 {
			d = w.act()
		}
		if got, want := d.call(c), d.call(w.m); got != want {
			t.Fatalf("%s: %s, want %s", d.name, got, want)
		}
		if got, want := seen(c), seen(w.m); got != want {
			t.Fatalf("behind %s: %s, want %s", d.name, got, want)
		}
		if got, want := c.Out(), w.m.Out(); string(got) != string(want) {
			t.Fatalf("behind %s: Out:%s\nwant:%s", d.name, lines(got), lines(want))
		}
	}
}

// P15.21, DOC.md's R2: events with as many lists as there may be share nothing, with one another, nor with what the end tells later.
func TestEventsShareNothing(t *testing.T) {
	open := peerOpen()
	open.Props = nested(4)
	begin := peerBegin(-1)
	begin.Props = nested(4)
	flow := linkFlow(sessionFlow(0, 90, maxWord-1, 9), 7, 0, 9, -1, false)
	flow.Props = nested(3)
	c := made(t, config(true))
	c.Open()
	b := slices.Concat(mainHeader, framed(0, open), framed(2, begin), framed(2, full(attachOf("l", 7, true))), framed(2, attachOf("r", 8, false)))
	l := c.Feed(b)
	for _, p := range []api.Perform{attachOf("l", 0, false), attachOf("r", 0, true)} {
		if _, e := c.Attach(0, p); e != api.OK {
			t.Fatal(e)
		}
	}
	c.Credit(0, 1, 9, false)
	l = append(l, c.Feed(framed(2, flow))...)
	for i := range 3 {
		c.Send(0, 0, fmt.Sprint(i), nil, false, fullState())
	}
	p := transferOf(8, 0, "t", false)
	p.State = fullState()
	again := transferOf(8, 1, "u", false)
	again.State = fullState()
	l = append(l, c.Feed(slices.Concat(framed(2, dispositionOf(true, 0, 2, false, fullState())), framed(2, p, 1, 2, 3), framed(2, again, 4)))...)
	l = append(l, c.Feed(slices.Concat(framed(2, dispositionOf(true, 0, 2, true, fullState())), framed(2, detachOf(7, true, fullFault()))))...)
	l = append(l, c.Feed(slices.Concat(framed(2, endOf(fullFault())), framed(0, closeOf(fullFault()))))...)
	if len(l) != 16 {
		t.Fatalf("%d events: %s", len(l), told(l))
	}
	_, first := c.Over()
	_, second := c.Over()
	out := c.Out()
	if !apart(places(l), places(first), places(second), places(out), places(b)) {
		t.Error("answers share memory")
	}
	if told(first) != told(fullFault()) {
		t.Errorf("%s", told(first))
	}
	scribble(l)
	scribble(second)
	if _, f := c.Over(); told(f) != told(fullFault()) || told(first) != told(fullFault()) {
		t.Errorf("behind a scribble: %s", told(f))
	}
}

// DOC.md's R2: the lists that are handed in are not kept.
func TestListsAreNotKept(t *testing.T) {
	c := halves(t)
	lists, data := handIn(t, c)
	runtime.GC()
	for i, list := range lists {
		if list.Value() != nil {
			t.Errorf("the list %d is kept", i)
		}
	}
	if data.Value() != nil {
		t.Error("the data are kept")
	}
	if len(c.Channels()) != 2 {
		t.Errorf("%s", seen(c))
	}
	runtime.KeepAlive(c)
}

// DOC.md's R2: nor are the users that New is given.
func TestUsersAreNotKept(t *testing.T) {
	made := func() (*conn.Conn, weak.Pointer[api.User]) {
		x := guardedServer()
		return made(t, x), weak.Make(&x.Users[0])
	}
	c, users := made()
	runtime.GC()
	if users.Value() != nil {
		t.Error("the users are kept")
	}
	l := row("plain", api.User{Name: "ann", Secret: "x"})
	wantEvents(t, c.Feed(slices.Concat(guardHeader, guarded(l[1]))), api.Event{Kind: api.EvUser, User: "ann"})
}

// handIn hands lists in, and answers them, as long as somebody has them.
func handIn(t *testing.T, c *conn.Conn) ([]weak.Pointer[api.Value], weak.Pointer[byte]) {
	attach, settle, send, detach, end := full(attachOf("new", 0, true)), fullState(), fullState(), fullFault(), fullFault()
	attach.Unsettled = nil // a frame has 700 bytes
	data := filled(5000)
	_, e := c.Attach(0, attach)
	wantErrno(t, "Attach", e, api.OK)
	c.Credit(0, 0, 5, false)
	c.Feed(framed(2, transferOf(7, 0, "t", false)))
	wantErrno(t, "Settle", c.Settle(0, 0, "t", settle, false), api.OK)
	c.Feed(framed(2, linkFlow(sessionFlow(0, 3, maxWord, 9), 8, 0, 5, -1, false)))
	_, e = c.Send(0, 1, "t", data, false, send)
	wantErrno(t, "Send", e, api.OK)
	c.Feed(framed(3, peerBegin(-1)))
	c.Feed(framed(1, peerBegin(-1)))
	wantErrno(t, "End", c.End(1, end), api.OK)
	wantErrno(t, "Detach", c.Detach(0, 0, true, detach), api.OK)
	var lists []weak.Pointer[api.Value]
	for _, v := range []api.Value{attach.Props, settle.Ann, send.Ann, detach.Info, end.Info} {
		lists = append(lists, weak.Make(&v.List[0]))
	}
	return lists, weak.Make(&data[0])
}

// inUse is how many bytes are in use.
func inUse() uint64 {
	var m runtime.MemStats
	runtime.GC()
	runtime.ReadMemStats(&m)
	return m.HeapAlloc
}

// LANGUAGE.md's rule 8: what was handed out, told, or is gone, is not kept.
func TestWhatIsGoneIsNotKept(t *testing.T) {
	const size = maxMessage
	wideOpen := func() *conn.Conn {
		p := peerOpen()
		p.MaxFrame = 1 << 20
		return begun(t, upWith(t, configWith(true, func(c *api.ConnConfig) { c.MaxFrame = 1 << 20 }), p))
	}
	sends := func() *conn.Conn {
		c := wideOpen()
		attach(t, c, "l", 0, 7, false)
		give(t, c, 90)
		for range 20 {
			c.Send(0, 0, "t", filled(size), true, api.State{})
		}
		return c
	}
	receives := func() *conn.Conn {
		c := wideOpen()
		attach(t, c, "l", 0, 7, true)
		c.Credit(0, 0, 90, false)
		p := transferOf(7, 0, "t", false)
		p.More = true
		for i := range 20 {
			p.DeliveryId, p.Tag, p.More = i, fmt.Sprint(i), i == 19
			c.Feed(framed(2, p, filled(size-100)...))
		}
		return c
	}
	detach := func(c *conn.Conn) { c.Detach(0, 0, true, api.Fault{}); c.Out() }
	theirs := func(c *conn.Conn) { c.Feed(framed(2, detachOf(7, true, api.Fault{}))); c.Out() }
	end := func(c *conn.Conn) { c.End(0, api.Fault{}); c.Out() }
	ended := func(c *conn.Conn) { c.Feed(framed(2, endOf(api.Fault{}))); c.Out() }
	closed := func(c *conn.Conn) { c.Feed(framed(0, closeOf(api.Fault{}))); c.Out() }
	written := func(c *conn.Conn) { c.Out(); c.Feed(framed(2, sessionFlow(-1, 1000, maxWord-1, 9))); c.Out() }
	before := inUse()
	for i, x := range []struct {
		again func() *conn.Conn
		goes  func(c *conn.Conn)
	}{{sends, detach}, {sends, theirs}, {sends, end}, {sends, ended}, {sends, closed}, {sends, written}, {receives, detach}, {receives, theirs}, {receives, end}, {receives, ended}, {receives, closed}} {
		c := x.again()
		x.goes(c)
		if after := inUse(); after > before+size/2 {
			t.Errorf("%d: %d bytes are in use, before: %d", i, after, before)
		}
		runtime.KeepAlive(c)
	}
}

// P15.21: the calls that tell change nothing else; Out hands out what was written once, in order, whenever it is asked.
func TestTellingChangesNothing(t *testing.T) {
	for seed := range int64(40) {
		r := rand.New(rand.NewSource(seed))
		x := anyCourse(r)
		play := func(asks bool) string {
			c := made(t, x.config)
			var out []byte
			var b strings.Builder
			for _, d := range x.calls {
				b.WriteString(d.call(c))
				if asks {
					seen(c)
					seen(c)
					if r.Intn(2) == 0 {
						out = append(out, c.Out()...)
					}
				}
			}
			b.WriteString(told(c.Feed(x.bytes)))
			out = append(out, c.Out()...)
			return b.String() + lines(out) + seen(c)
		}
		if got, want := play(true), play(false); got != want {
			t.Fatalf("seed %d: %s\nwant %s", seed, got, want)
		}
	}
}

// DOC.md's R6: the same calls, the same answers, whatever was called at others.
func TestSameCallsSameAnswers(t *testing.T) {
	for seed := range int64(30) {
		x, y := anyCourse(rand.New(rand.NewSource(seed))), anyCourse(rand.New(rand.NewSource(seed+1000)))
		all := func(n int) int { return n }
		first := x.played(t, all)
		y.played(t, all)
		if x.played(t, all) != first {
			t.Errorf("seed %d: other answers to the same calls", seed)
		}
	}
}

// DOC.md's R1: every call ends and none panics, at all arguments.
func TestExtremes(t *testing.T) {
	all := append(slices.Clone(numbers), 0)
	faults := append(noFaults(), fullFault(), api.Fault{Cond: "x", Info: nested(2000)})
	states := []api.State{{}, accepted, {Kind: -1}, {Kind: 1 << 62}, {Kind: api.KTransactional, Txn: "t", Inner: []api.State{{Inner: []api.State{{}}}}}, {Kind: api.KModified, Ann: nested(2000)}}
	c := halves(t)
	for _, a := range all {
		for _, b := range all {
			for _, n := range all {
				c.Credit(a, b, n, n > 0)
			}
			for i, s := range states {
				c.Send(a, b, long(i*10), filled(i*300), i%2 == 0, s)
				c.Settle(a, b, long(i*10), s, i%2 == 0)
			}
			for _, f := range faults {
				if a != 0 || b > 2 || b < 0 {
					c.Detach(a, b, true, f)
				}
			}
			c.Drained(a, b)
			p := attachOf("x", a, b > 0)
			p.SndMode, p.RcvMode, p.InitialCount, p.MaxMessage = a, b, a, b
			c.Attach(a, p)
			c.Attach(0, p)
		}
		c.Links(a)
		c.Handles(a)
		if a != 0 {
			c.End(a, fullFault())
		}
	}
	if !c.Up() || len(c.Channels()) != 1 {
		t.Errorf("%s", seen(c))
	}
}
