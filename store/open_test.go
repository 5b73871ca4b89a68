package store_test

import (
	"fmt"
	"strings"
	"testing"

	"longshore/api"
	"longshore/disk"
	"longshore/store"
)

// wantNoOpen wants an error, and nothing beside it.
func wantNoOpen(t *testing.T, what string, d *disk.Disk, want api.Errno) {
	t.Helper()
	if s, e := store.Open(d); s != nil || e != want {
		t.Fatalf("Open of %s: %v, %d, want %d", what, s != nil, e, want)
	}
}

// wantNoReplay wants that the log of these batches can't be carried out, and stays as it is.
func wantNoReplay(t *testing.T, what string, batches ...[]string) {
	t.Helper()
	d := withLog(t, batches...)
	before := seen(d)
	wantNoOpen(t, what, d, api.ErrReplay)
	if seen(d) != before {
		t.Fatalf("%s: %s, before: %s", what, brief(seen(d)), brief(before))
	}
}

// P21.1: Open of nothing, of a disk that is down, and of one that falls meanwhile: the errors of journal.Open.
func TestErrorsOfOpen(t *testing.T) {
	wantNoOpen(t, "nil", nil, api.ErrArg)
	d := withLog(t, []string{madeRecord(lasting("q", 1))})
	d.Crash(0)
	wantNoOpen(t, "a disk that is down", d, api.ErrDown)
	d.Start()
	wantQueues(t, opened(t, d), lasting("q", 1))

	wrong := withLog(t, []string{"no record"})
	wrong.Crash(0)
	wantNoOpen(t, "a wrong log of a disk that is down", wrong, api.ErrDown)

	d = loaded(t, maxDisk, safeFile("log", batch(madeRecord(lasting("q", 1)))), safeFile("log.new", "left"))
	d.Arm(0, 0)
	wantNoOpen(t, "a disk that falls meanwhile", d, api.ErrDown)
	d.Start()
	wantQueues(t, opened(t, d), lasting("q", 1))
}

// P21.1: a log that is torn; also where what stands ahead can't be carried out.
func TestTornOpen(t *testing.T) {
	for _, ahead := range []string{"", batch(madeRecord(lasting("q", 1))), batch("no record")} {
		s := ahead + batch(madeRecord(lasting("r", 1)))
		torn := s[:len(s)-1] + "?"
		wantNoOpen(t, "a torn log", loaded(t, maxDisk, safeFile("log", torn)), api.ErrTorn)
		if ahead != batch("no record") {
			opened(t, loaded(t, maxDisk, api.File{Name: "log", Data: []byte(torn), Safe: len(ahead)}))
		}
	}
}

// P21.1: a tail that a fall has left is cut, where there is room; what follows is written behind the batches.
func TestOpenOfTail(t *testing.T) {
	whole := batch(madeRecord(lasting("q", 9)))
	next := batch(putRecord("q", durable(1, 4)))
	stays := 0
	for n := range len(next) {
		for _, room := range []int{maxDisk, max(2*len(whole)+n-1, len(whole)+len(next))} { // mostly the second one has no room to cut it
			d := loaded(t, room, safeFile("log", whole+next[:n]))
			s := opened(t, d)
			wantQueues(t, s, lasting("q", 9))
			wantEntries(t, s, "q")
			wantNext(t, s, 1)
			if room < 2*len(whole)+n && n > 0 {
				if n, e := s.Apply([]api.Op{put("q", durable(1, 4))}); n != 0 || e != api.ErrDiskFull {
					t.Fatalf("Apply: %d, %d", n, e)
				}
				stays++
				continue
			}
			wantApply(t, s, put("q", durable(1, 4)))
			if f := d.Files(); len(f) != 1 || string(f[0].Data) != whole+next {
				t.Fatalf("%s", seen(d))
			}
		}
	}
	if stays < 20 {
		t.Errorf("only %d tails that stay", stays)
	}
	wantQueues(t, opened(t, loaded(t, maxDisk, safeFile("log", "tail"))))
}

// P21.1: what is not safe is made so, as the journal does it; other files don't matter, and log.new is deleted. More is not done to the disk.
func TestActsOfOpen(t *testing.T) {
	log := batch(madeRecord(lasting("q", 9)), putRecord("q", durable(1, 4)))
	d := loaded(t, 1000, api.File{Name: "log", Data: []byte(log), Safe: 3}, safeFile("log.new", "left"), safeFile("other", "x"))
	d.Arm(2, 0)
	wantEntries(t, opened(t, d), "q", durable(1, 4))
	if got := toldFiles(d.Files()); got != toldFiles([]api.File{safeFile("log", log), safeFile("other", "x")}) {
		t.Errorf("%s", got)
	}
	wantErrno(t, "the third act", d.Delete("other"), api.ErrDown)

	for _, d := range []*disk.Disk{disk.New(1000), loaded(t, 1000, safeFile("other", "x")), loaded(t, 1000, safeFile("log", log))} {
		before := seen(d)
		d.Arm(0, 0)
		opened(t, d)
		if seen(d) != before {
			t.Errorf("%s, before: %s", seen(d), before)
		}
	}
}

// P21.1: each kind of record does what the table says; what there is then, and all messages free.
func TestRecords(t *testing.T) {
	q, r := dying(lasting("q", 3), "r", 4), lasting("r", 2)
	one, two := counted(until(durable(1, 9), 700), 3), durable(2, 0)
	base := []string{madeRecord(q), madeRecord(r), boundRecord("a.*", "q"), boundRecord("#", "r"), putRecord("q", one), putRecord("q", two)}
	a, b := api.Binding{Pattern: "a.*", Queue: "q"}, api.Binding{Pattern: "#", Queue: "r"}
	for _, c := range []struct {
		what    string
		more    []string
		queues  []api.QueueConfig
		binds   []api.Binding
		inQ     []api.Entry
		inR     []api.Entry
		nextOne int
	}{
		{"nothing more", nil, []api.QueueConfig{q, r}, []api.Binding{b, a}, []api.Entry{one, two}, nil, 3},
		{"a queue is made", []string{madeRecord(lasting("a", maxQueue))}, []api.QueueConfig{lasting("a", maxQueue), q, r}, []api.Binding{b, a}, []api.Entry{one, two}, nil, 3},
		{"a queue goes", []string{goneRecord("q")}, []api.QueueConfig{r}, []api.Binding{b}, nil, nil, 3},
		{"it is made again", []string{goneRecord("q"), madeRecord(lasting("q", 1)), putRecord("q", durable(4, 4))}, []api.QueueConfig{lasting("q", 1), r}, []api.Binding{b}, []api.Entry{durable(4, 4)}, nil, 5},
		{"a binding comes", []string{boundRecord("a.*", "r")}, []api.QueueConfig{q, r}, []api.Binding{b, a, {Pattern: "a.*", Queue: "r"}}, []api.Entry{one, two}, nil, 3},
		{"a binding goes", []string{unboundRecord("a.*", "q")}, []api.QueueConfig{q, r}, []api.Binding{b}, []api.Entry{one, two}, nil, 3},
		{"a message comes", []string{putRecord("r", counted(until(durable(900, 5), maxTime), maxWord))}, []api.QueueConfig{q, r}, []api.Binding{b, a}, []api.Entry{one, two}, []api.Entry{counted(until(durable(900, 5), maxTime), maxWord)}, 901},
		{"a message goes", []string{removedRecord("q", 1)}, []api.QueueConfig{q, r}, []api.Binding{b, a}, []api.Entry{two}, nil, 3},
		{"the last one goes", []string{removedRecord("q", 2)}, []api.QueueConfig{q, r}, []api.Binding{b, a}, []api.Entry{one}, nil, 3},
		{"a message goes elsewhere", []string{movedRecord("q", 1, "r", 3, 8)}, []api.QueueConfig{q, r}, []api.Binding{b, a}, []api.Entry{two}, []api.Entry{as(one, 3, 8)}, 4},
		{"with a Count of none", []string{movedRecord("q", 1, "r", 300, 0)}, []api.QueueConfig{q, r}, []api.Binding{b, a}, []api.Entry{two}, []api.Entry{as(one, 300, 0)}, 301},
		{"and back", []string{movedRecord("q", 1, "r", 3, 4), movedRecord("r", 3, "q", 4, maxWord)}, []api.QueueConfig{q, r}, []api.Binding{b, a}, []api.Entry{as(one, 4, maxWord), two}, nil, 5},
	} {
		for _, log := range [][][]string{{append(base[:len(base):len(base)], c.more...)}, {base, c.more}, apart(append(base[:len(base):len(base)], c.more...))} {
			d := withLog(t, log...)
			before := seen(d)
			s := opened(t, d)
			wantQueues(t, s, c.queues...)
			wantBindings(t, s, c.binds...)
			wantEntries(t, s, "q", c.inQ...)
			wantEntries(t, s, "r", c.inR...)
			wantNext(t, s, c.nextOne)
			if seen(d) != before {
				t.Errorf("%s: %s, before: %s", c.what, seen(d), before)
			}
		}
	}
}

// apart is a batch of its own for each record.
func apart(records []string) [][]string {
	var l [][]string
	for _, r := range records {
		l = append(l, []string{r})
	}
	return l
}

// ground is a log behind which each kind of record is one that can be carried out.
func ground() []string {
	return []string{madeRecord(lasting("q", 3)), madeRecord(lasting("r", 3)), boundRecord("a", "q"), putRecord("q", durable(5, 4))}
}

// elements are those of a record of each kind, right behind the ground.
func elements() map[int][]string {
	return map[int][]string{
		1: {uintOf(1), stringOf("n"), uintOf(5), stringOf(""), uintOf(0)},
		2: {uintOf(2), stringOf("q")},
		3: {uintOf(3), stringOf("a"), stringOf("r")},
		4: {uintOf(4), stringOf("a"), stringOf("q")},
		5: {uintOf(5), stringOf("q"), ulongOf(6), ubyteOf(4), longOf(-1), uintOf(0)},
		6: {uintOf(6), stringOf("q"), ulongOf(5)},
		8: {uintOf(8), stringOf("q"), ulongOf(5), stringOf("r"), ulongOf(6), uintOf(0)},
	}
}

// kindOf tells the kinds of a record's elements apart.
func kindOf(element string) string {
	for _, kind := range []string{"\x43\x52\x70", "\x44\x53\x80", "\x50", "\x55\x81", "\xa1\xb1"} {
		if strings.Contains(kind, element[:1]) {
			return kind
		}
	}
	return "another"
}

// with is elements of which one is another.
func with(l []string, at int, element string) []string {
	l = append([]string(nil), l...)
	l[at] = element
	return l
}

// P21.1: a record is read just with its own number of elements, each of its kind; a message's Data stand behind a put, and nothing stands behind any other one.
func TestFormOfRecords(t *testing.T) {
	kinds := []string{"\x40", "\x41", "\x56\x01", "\x50\x05", "\x60\x00\x05", "\x52\x05", "\x53\x05", "\x51\x05", "\x61\x00\x05", "\x54\x05", "\x55\x05", "\x73\x00\x00\x00\x71", "\xa0\x01q", "\xa1\x01q", "\xa3\x01q", "\x45", "\xc0\x04\x01\xa1\x01q", "\xc1\x01\x00", "\xe0\x02\x00\x52", "\x00\x53\x24\x45", "\x83\x00\x00\x00\x00\x00\x00\x00\x05", "\x98" + strings.Repeat("q", 16), "\x72\x00\x00\x00\x05"}
	for kind, l := range elements() {
		what := fmt.Sprint("kind ", kind)
		opened(t, withLog(t, ground(), []string{listOf(l...)}))
		for n := range l {
			wantNoReplay(t, what+": fewer elements", ground(), []string{listOf(l[:n]...)})
		}
		for _, x := range kinds {
			wantNoReplay(t, what+": more elements", ground(), []string{listOf(append(l[:len(l):len(l)], x)...)})
		}
		for at := range l {
			same := 0
			for _, x := range kinds {
				if kindOf(x) == kindOf(l[at]) {
					same++ // of the kind that must stand there
					continue
				}
				wantNoReplay(t, fmt.Sprint(what, ": element ", at, " is ", brief(x)), ground(), []string{listOf(with(l, at, x)...)})
			}
			if same != 1 {
				t.Errorf("%s: %d of the kinds are that of the element %d", what, same, at)
			}
		}
		for _, rest := range []string{"\x40", "x", "\x00", listOf(l...), "\xff"} {
			log := [][]string{ground(), {listOf(l...) + rest}}
			if kind != 5 {
				wantNoReplay(t, what+": bytes behind it", log...)
				continue
			}
			want := durable(6, 4)
			want.Data = []byte(rest)
			wantEntries(t, opened(t, withLog(t, log...)), "q", durable(5, 4), want)
		}
	}
}

// P21.1: what is no List, or a List of no kind, is no record; wherever it stands.
func TestNoRecords(t *testing.T) {
	rest := []string{stringOf("q"), uintOf(5), stringOf(""), uintOf(0)}
	none := []string{"a", "\x40", "\x45", "\x52\x01", "\xc0\x01\x00", "\xd0\x00\x00\x00\x04\x00\x00\x00\x00", "\xc0", "\xc0\x05\x01", "\xff", strings.Repeat("x", maxRecord),
		"\xc1" + listOf(uintOf(2), stringOf("q"))[1:], "\x00\x53\x02" + listOf(uintOf(2), stringOf("q")), listOf(listOf(uintOf(2), stringOf("q"))), listOf(uintOf(2), stringOf("\xff")), goneRecord("q")[:6]}
	for _, n := range []int{0, 7, 9, 10, 15, 100, 257, 258, 65538, 1 << 31, maxWord} {
		none = append(none, listOf(uintOf(n)), listOf(uintOf(n), stringOf("q")), listOf(uintOf(n), stringOf("q"), stringOf("a")), listOf(append([]string{uintOf(n)}, rest...)...), listOf(uintOf(n), stringOf("q"), ulongOf(5)), listOf(uintOf(n), stringOf("q"), ulongOf(5), uintOf(1)))
	}
	for _, r := range none {
		wantNoReplay(t, brief(r), []string{r})
		wantNoReplay(t, brief(r)+" in the midst", ground(), []string{removedRecord("q", 5), r, goneRecord("q")})
	}
}

// P21.1: records are read by codec.Decode: in any form that says the same.
func TestAnyForms(t *testing.T) {
	long := func(elements ...string) string {
		s := strings.Join(elements, "")
		return "\xd0" + four(len(s)+4) + four(len(elements)) + s
	}
	u := func(n int) string { return "\x70" + four(n) }
	s := func(x string) string { return "\xb1" + four(len(x)) + x }
	ul := func(n int) string { return "\x80\x00\x00\x00\x00" + four(n) }
	st := opened(t, withLog(t, []string{
		long(u(1), s("q"), u(3), s("r"), u(2)), long("\x52\x01", s("r"), "\x52\x03", s(""), "\x52\x00"), long(u(1), s("x"), u(1), s(""), u(0)),
		long(u(3), s("a.*"), s("q")), long(u(3), s("#"), s("q")), long(u(4), s("#"), s("q")),
		long(u(5), s("q"), ul(1), "\x50\x04", "\x81\xff\xff\xff\xff\xff\xff\xff\xff", u(0)) + "entry 1",
		long(u(5), s("q"), ul(2), "\x50\x09", "\x81\x00\x00\x00\x00\x00\x00\x00\x05", "\x52\x00") + "entry 2",
		long(u(6), s("q"), ul(1)), long(u(8), s("q"), "\x53\x02", s("r"), ul(3), u(1)), long(u(2), s("x")),
	}))
	wantQueues(t, st, dying(lasting("q", 3), "r", 2), lasting("r", 3))
	wantBindings(t, st, api.Binding{Pattern: "a.*", Queue: "q"})
	wantEntries(t, st, "q")
	wantEntries(t, st, "r", as(until(durable(2, 9), 5), 3, 1))
}

// P21.1: a queue that queue.New refuses, one that is there, and one more than 64.
func TestReplayOfQueues(t *testing.T) {
	good := []api.QueueConfig{lasting(strings.Repeat("n", maxName), 1), lasting("n", maxQueue), dying(lasting("n", 1), "d", maxWord), dying(lasting("n", 1), strings.Repeat("d", maxName), 0), dying(lasting("n", 1), "q", 0), dying(lasting("-._09az", 1), "", 5)}
	for _, c := range good {
		s := opened(t, withLog(t, []string{madeRecord(c)}))
		wantQueues(t, s, c)
	}
	for _, c := range []api.QueueConfig{lasting("", 1), lasting("N", 1), lasting("n n", 1), lasting("\u00e9", 1), lasting(strings.Repeat("n", maxName+1), 1), lasting("n", 0), lasting("n", maxQueue+1), lasting("n", maxWord), dying(lasting("n", 1), "n", 0), dying(lasting("n", 1), "D", 0), dying(lasting("n", 1), strings.Repeat("d", maxName+1), 0)} {
		wantNoReplay(t, fmt.Sprintf("%+v", c), []string{madeRecord(c)})
	}
	wantNoReplay(t, "twice", []string{madeRecord(lasting("n", 1)), madeRecord(lasting("n", 1))})
	wantNoReplay(t, "twice, another one", []string{madeRecord(lasting("n", 1))}, []string{madeRecord(dying(lasting("n", 2), "d", 1))})

	var many []string
	for i := range maxQueues {
		many = append(many, madeRecord(lasting(fmt.Sprint("n", i), 1)))
	}
	if n := len(opened(t, withLog(t, many)).Queues()); n != maxQueues {
		t.Errorf("%d queues", n)
	}
	wantNoReplay(t, "the 65th", many, []string{madeRecord(lasting("n64", 1))})
	opened(t, withLog(t, many, []string{goneRecord("n7"), madeRecord(lasting("n64", 1))}))
	wantNoReplay(t, "the 65th, ahead of one that goes", many, []string{madeRecord(lasting("n64", 1)), goneRecord("n7")})
}

// P21.1: a queue, a binding or a message that must be there and is not.
func TestReplayOfNothing(t *testing.T) {
	for what, more := range map[string][]string{
		"no queue goes":                   {goneRecord("x")},
		"it goes twice":                   {goneRecord("q"), goneRecord("q")},
		"a binding to no queue":           {boundRecord("a", "x")},
		"a binding to one that went":      {goneRecord("r"), boundRecord("a", "r")},
		"a binding of no queue goes":      {unboundRecord("a", "x")},
		"no binding goes":                 {unboundRecord("a", "r")},
		"no pattern goes":                 {unboundRecord("", "q")},
		"it goes twice, the binding":      {unboundRecord("a", "q"), unboundRecord("a", "q")},
		"it went with its queue":          {goneRecord("q"), madeRecord(lasting("q", 3)), unboundRecord("a", "q")},
		"a message into no queue":         {putRecord("x", durable(6, 4))},
		"a message into one that went":    {goneRecord("q"), putRecord("q", durable(6, 4))},
		"a message of no queue goes":      {removedRecord("x", 5)},
		"no message goes":                 {removedRecord("q", 4)},
		"another queue's message goes":    {removedRecord("r", 5)},
		"it goes twice, the message":      {removedRecord("q", 5), removedRecord("q", 5)},
		"the message went with its queue": {goneRecord("q"), madeRecord(lasting("q", 3)), removedRecord("q", 5)},
		"no queue's message moves":        {movedRecord("x", 5, "r", 6, 0)},
		"no message moves":                {movedRecord("q", 4, "r", 6, 0)},
		"a message moves nowhere":         {movedRecord("q", 5, "x", 6, 0)},
		"it moves twice":                  {movedRecord("q", 5, "r", 6, 0), movedRecord("q", 5, "r", 7, 0)},
		"it moved, and goes":              {movedRecord("q", 5, "r", 6, 0), removedRecord("q", 5)},
		"it moves to a nameless one":      {movedRecord("q", 5, "", 6, 0)},
	} {
		wantNoReplay(t, what, ground(), more)
	}
	for _, n := range []uint64{0, 1 << 32, 5 + 1<<32, 1<<63 + 5, 1 << 63, 1<<64 - 1} {
		wantNoReplay(t, fmt.Sprint("the message ", n, " goes"), ground(), []string{listOf(uintOf(6), stringOf("q"), ulongOf(n))})
		wantNoReplay(t, fmt.Sprint("the message ", n, " moves"), ground(), []string{listOf(uintOf(8), stringOf("q"), ulongOf(n), stringOf("r"), ulongOf(6), uintOf(0))})
	}
}

// P21.1: a binding that route's Bind refuses.
func TestReplayOfBindings(t *testing.T) {
	for _, pattern := range []string{"", ".", "A", "a..b", "#.#.#", "a.b.c.d.e.f.g.h.i", strings.Repeat("w", 33)} {
		wantNoReplay(t, pattern, ground(), []string{boundRecord(pattern, "r")})
	}
	wantNoReplay(t, "it is there", ground(), []string{boundRecord("a", "q")})
	long := strings.Repeat(strings.Repeat("w", 32)+".", 7) + strings.Repeat("w", 32)
	wantMatch(t, opened(t, withLog(t, ground(), []string{boundRecord(long, "r"), boundRecord("a", "r")})), long, "r")

	many := []string{madeRecord(lasting("q", 3)), madeRecord(lasting("r", 3))}
	for i := range maxBinds {
		many = append(many, boundRecord(fmt.Sprint("p", i/2), []string{"q", "r"}[i%2]))
	}
	if n := len(opened(t, withLog(t, many)).Bindings()); n != maxBinds {
		t.Errorf("%d bindings", n)
	}
	wantNoReplay(t, "the 257th", many, []string{boundRecord("p128", "q")})
	opened(t, withLog(t, many, []string{unboundRecord("p9", "r"), boundRecord("p128", "q")}))
	opened(t, withLog(t, many, []string{goneRecord("r"), boundRecord("p128", "q")}))
}

// P21.1: a message that queue's Put refuses; at each bound of its numbers, of its Data, and of the queue.
func TestReplayOfMessages(t *testing.T) {
	for what, e := range map[string]api.Entry{
		"the least": durable(6, 0), "the highest priority": durable(6, 9), "no time": until(durable(6, 4), 0), "the last time": until(durable(6, 4), maxTime), "the highest count": counted(durable(6, 4), maxWord),
		"no bytes":   turned(durable(6, 4), func(e *api.Entry) { e.Data = nil }),
		"many bytes": turned(durable(6, 4), func(e *api.Entry) { e.Data = make([]byte, maxMessage) }),
	} {
		s := opened(t, withLog(t, ground(), []string{putRecord("r", e)}))
		if got := toldEntries(s.Entries("r")); got != toldEntry(e) {
			t.Errorf("%s: %s, want %s", what, got, toldEntry(e))
		}
	}
	for what, e := range map[string]api.Entry{
		"priority 10": durable(6, 10), "priority 255": durable(6, 255), "a time below -1": until(durable(6, 4), -2), "a time far below": until(durable(6, 4), -1<<63), "a time too late": until(durable(6, 4), maxTime+1), "a time far too late": until(durable(6, 4), 1<<63-1),
		"too many bytes": turned(durable(6, 4), func(e *api.Entry) { e.Data = make([]byte, maxMessage+1) }),
	} {
		wantNoReplay(t, what, ground(), []string{putRecord("r", e)})
	}
	full := append(ground(), putRecord("q", durable(6, 4)), putRecord("q", durable(7, 4)))
	opened(t, withLog(t, full))
	wantNoReplay(t, "the queue is full", full, []string{putRecord("q", durable(8, 4))})
	opened(t, withLog(t, full, []string{removedRecord("q", 6), putRecord("q", durable(8, 4))}))
	opened(t, withLog(t, full, []string{movedRecord("q", 6, "r", 8, 0), putRecord("q", durable(9, 4))}))
	wantNoReplay(t, "full, ahead of one that goes", full, []string{putRecord("q", durable(8, 4)), removedRecord("q", 6)})
}

// P21.1: a message that goes to another queue leaves its own first: it may come into a queue that is full but for its own place.
func TestReplayOfMoves(t *testing.T) {
	full := append(ground(), putRecord("q", durable(6, 9)), putRecord("q", durable(7, 4)), putRecord("r", durable(8, 4)), putRecord("r", durable(9, 4)))
	s := opened(t, withLog(t, full, []string{movedRecord("q", 6, "q", 10, 5)}))
	wantEntries(t, s, "q", as(durable(6, 9), 10, 5), durable(5, 4), durable(7, 4))
	wantNext(t, s, 11)
	s = opened(t, withLog(t, full, []string{movedRecord("q", 6, "r", 10, 5)}))
	wantEntries(t, s, "q", durable(5, 4), durable(7, 4))
	wantEntries(t, s, "r", as(durable(6, 9), 10, 5), durable(8, 4), durable(9, 4))
	wantNoReplay(t, "the other one is full", full, []string{movedRecord("q", 6, "r", 10, 5), movedRecord("q", 5, "r", 11, 5)})
	s = opened(t, withLog(t, full, []string{movedRecord("q", 6, "r", 10, 5), movedRecord("r", 8, "q", 11, 5)}))
	wantEntries(t, s, "q", durable(5, 4), durable(7, 4), as(durable(8, 4), 11, 5))
	s = opened(t, withLog(t, full, []string{movedRecord("q", 6, "r", 10, 5), movedRecord("r", 10, "q", 12, 0), movedRecord("q", 12, "r", 13, 6)}))
	wantEntries(t, s, "r", as(durable(6, 9), 13, 6), durable(8, 4), durable(9, 4))
}

// P21.1: a Seq that is not above all Seqs ahead of it in the log, in whichever queue they stood, and whether their messages are there still; or above 2^62.
func TestReplayOfSeqs(t *testing.T) {
	for _, n := range []int{1, 4, 5} {
		for what, r := range map[string]string{"put": putRecord("q", durable(n, 4)), "put into another one": putRecord("r", durable(n, 4)), "moved": movedRecord("q", 5, "r", n, 0), "moved within": movedRecord("q", 5, "q", n, 0)} {
			wantNoReplay(t, fmt.Sprint(n, " behind 5, ", what), ground(), []string{r})
		}
		wantNoReplay(t, fmt.Sprint(n, " behind 5 that is gone"), ground(), []string{removedRecord("q", 5), putRecord("q", durable(n, 4))})
		wantNoReplay(t, fmt.Sprint(n, " behind 5 that went with its queue"), ground(), []string{goneRecord("q"), putRecord("r", durable(n, 4))})
		wantNoReplay(t, fmt.Sprint(n, " behind 5 that was moved"), ground(), []string{movedRecord("q", 5, "r", 9, 0), removedRecord("r", 9), putRecord("q", durable(n+4, 4))})
	}
	for _, n := range []uint64{0, 1 << 63, 1<<63 + 6, 1<<64 - 1, lastSeq + 1, 1<<63 - 1} {
		at := fmt.Sprint("Seq ", n)
		wantNoReplay(t, at, []string{madeRecord(lasting("q", 3)), listOf(uintOf(5), stringOf("q"), ulongOf(n), ubyteOf(4), longOf(-1), uintOf(0))})
		wantNoReplay(t, at, ground(), []string{listOf(uintOf(5), stringOf("q"), ulongOf(n), ubyteOf(4), longOf(-1), uintOf(0))})
		wantNoReplay(t, at, ground(), []string{listOf(uintOf(8), stringOf("q"), ulongOf(5), stringOf("r"), ulongOf(n), uintOf(0))})
	}
	s := opened(t, withLog(t, ground(), []string{putRecord("r", durable(lastSeq, 4))}))
	wantNext(t, s, lastSeq+1)
	s = opened(t, withLog(t, ground(), []string{movedRecord("q", 5, "r", lastSeq, 0)}))
	wantNext(t, s, lastSeq+1)
	wantNoReplay(t, "behind the last", ground(), []string{putRecord("r", durable(lastSeq, 4)), putRecord("r", durable(lastSeq, 4))})
	s = opened(t, withLog(t, ground(), []string{putRecord("r", durable(lastSeq-1, 4)), removedRecord("r", lastSeq-1)}))
	wantNext(t, s, lastSeq)
}

// P21.1: batches that come to nothing leave nothing but their numbers.
func TestReplayOfNoMatter(t *testing.T) {
	s := opened(t, withLog(t))
	wantNext(t, s, 1)
	s = opened(t, withLog(t, []string{madeRecord(lasting("q", 3))}, []string{goneRecord("q")}, []string{madeRecord(lasting("q", 3)), boundRecord("a", "q"), unboundRecord("a", "q"), putRecord("q", durable(7, 4)), removedRecord("q", 7), goneRecord("q")}))
	wantQueues(t, s)
	wantBindings(t, s)
	wantNext(t, s, 8)
}

// P21.1: what was read is there to be worked on: messages are taken in their order, given back, die; what is written behind the restart is told by the next one.
func TestGoesOn(t *testing.T) {
	d := withLog(t, ground(), []string{putRecord("r", durable(9, 4)), putRecord("r", durable(10, 9)), madeRecord(dying(lasting("s", 1), "q", 1)), putRecord("s", counted(durable(11, 4), 7))})
	s := opened(t, d)
	wantTaken(t, s, "r", 7, 10)
	wantTaken(t, s, "r", 7, 9)
	wantTaken(t, s, "s", 7, 11)
	wantOk(t, s.Back("r", 10, 7, true), s.Back("s", 11, 7, true))
	wantApply(t, s, remove("r", 9), put("r", durable(13, 4)), unbind("a", "q"), bind("b", "r"), gone("s"))
	want := func(s calls, count int) {
		t.Helper()
		wantQueues(t, s, lasting("q", 3), lasting("r", 3))
		wantEntries(t, s, "q", durable(5, 4), as(durable(11, 4), 12, 8))
		wantEntries(t, s, "r", counted(durable(10, 9), count), durable(13, 4))
		wantBindings(t, s, api.Binding{Pattern: "b", Queue: "r"})
		wantNext(t, s, 14)
	}
	want(s, 1)
	want(behindFall(t, d), 0)
}

// P21.1: many queues with many messages each: every one of them is filled with its own.
func TestManyAreFilled(t *testing.T) {
	var log [][]string
	want := map[string][]api.Entry{}
	for i := range maxQueues {
		name := fmt.Sprint("n", i)
		log = append(log, []string{madeRecord(lasting(name, 500))})
	}
	for seq := 1; seq <= 64*300; seq++ {
		name := fmt.Sprint("n", seq*seq%maxQueues)
		e := durable(seq, 4)
		log = append(log, []string{putRecord(name, e)})
		if len(want[name]) == 500 {
			log[len(log)-1] = append([]string{removedRecord(name, want[name][0].Seq)}, log[len(log)-1]...)
			want[name] = want[name][1:]
		}
		want[name] = append(want[name], e)
	}
	for range 3 {
		s := opened(t, withLog(t, log...))
		for i := range maxQueues {
			name := fmt.Sprint("n", i)
			wantEntries(t, s, name, want[name]...)
		}
		wantNext(t, s, 64*300+1)
	}
}
