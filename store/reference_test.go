package store_test

import (
	"regexp"
	"slices"
	"strings"
	"unicode/utf8"

	"longshore/api"
	"longshore/disk"
	"longshore/journal"
)

// scene is what there is, as plain lists.
type scene struct {
	queues []mQueue
	binds  []api.Binding
	next   int
}

type mQueue struct {
	c api.QueueConfig
	l []api.Entry // in the order in which they came
}

// model is a store made another way: each call is done on a copy of the whole scene, which takes the other one's place when its records are written.
type model struct {
	d *disk.Disk
	j *journal.Journal
	scene
}

func (x scene) copied() scene {
	y := scene{binds: slices.Clone(x.binds), next: x.next}
	for _, q := range x.queues {
		y.queues = append(y.queues, mQueue{q.c, slices.Clone(q.l)})
	}
	return y
}

// at is a queue's place; -1, if there is none.
func (x *scene) at(name string) int {
	return slices.IndexFunc(x.queues, func(q mQueue) bool { return q.c.Name == name })
}

func (q *mQueue) at(seq int) int {
	return slices.IndexFunc(q.l, func(e api.Entry) bool { return e.Seq == seq })
}

var (
	isName    = regexp.MustCompile(`^[a-z0-9._-]{1,64}$`)
	isPattern = regexp.MustCompile(`^([a-z0-9-]{1,32}|\*|#)(\.([a-z0-9-]{1,32}|\*|#)){0,7}$`)
	isTopic   = regexp.MustCompile(`^[a-z0-9-]{1,32}(\.[a-z0-9-]{1,32}){0,7}$`)
)

func isConfig(c api.QueueConfig) bool {
	return isName.MatchString(c.Name) && c.Most >= 1 && c.Most <= maxQueue && (c.Dead == "" || isName.MatchString(c.Dead) && c.Dead != c.Name) && c.Tries >= 0 && c.Tries <= maxWord
}

// putError is why a queue refuses an entry with a number that is new to it.
func (q *mQueue) putError(e api.Entry) api.Errno {
	switch {
	case e.Seq < 1, e.Priority < 0, e.Priority > 9, e.Expiry < -1, e.Expiry > maxTime, e.Count < 0, e.Count > maxWord, e.Holder != 0:
		return 171
	case len(e.Data) > maxMessage:
		return 2
	case len(q.l) >= q.c.Most:
		return 170
	}
	return 0
}

// bindError is why a binding to a queue that is there is refused.
func (x *scene) bindError(b api.Binding) api.Errno {
	switch {
	case !isPattern.MatchString(b.Pattern) || strings.Count(b.Pattern, "#") > 2:
		return 180
	case slices.Contains(x.binds, b):
		return 181
	case len(x.binds) >= maxBinds:
		return 183
	}
	return 0
}

// do does one operation: the record of it, if what is written changes, or why it is refused.
func (x *scene) do(op api.Op) (string, api.Errno) {
	if op.Kind == 1 {
		switch {
		case !isConfig(op.Config):
			return "", 172
		case x.at(op.Config.Name) >= 0:
			return "", 211
		case len(x.queues) >= maxQueues:
			return "", 2
		}
		x.queues = append(x.queues, mQueue{c: op.Config})
		return when(op.Config.Durable, madeRecord(op.Config)), 0
	}
	if op.Kind < 1 || op.Kind > 6 {
		return "", 212
	}
	at := x.at(op.Queue)
	if at < 0 {
		return "", 210
	}
	lasts, b := x.queues[at].c.Durable, api.Binding{Pattern: op.Pattern, Queue: op.Queue}
	switch op.Kind {
	case 2:
		x.drop(at)
		return when(lasts, goneRecord(op.Queue)), 0
	case 3:
		if e := x.bindError(b); e != 0 {
			return "", e
		}
		x.binds = append(x.binds, b)
		return when(lasts, boundRecord(op.Pattern, op.Queue)), 0
	case 4:
		if !slices.Contains(x.binds, b) {
			return "", 182
		}
		x.binds = slices.DeleteFunc(x.binds, func(c api.Binding) bool { return c == b })
		return when(lasts, unboundRecord(op.Pattern, op.Queue)), 0
	case 5:
		return when(lasts && op.Entry.Durable, putRecord(op.Queue, op.Entry)), x.put(at, op.Entry)
	}
	k := x.queues[at].at(op.Seq)
	if k < 0 {
		return "", 171
	}
	e := x.take(at, k)
	return when(lasts && e.Durable, removedRecord(op.Queue, op.Seq)), 0
}

func when(is bool, record string) string {
	if is {
		return record
	}
	return ""
}

func (x *scene) drop(at int) {
	name := x.queues[at].c.Name
	x.queues = slices.Delete(x.queues, at, at+1)
	x.binds = slices.DeleteFunc(x.binds, func(b api.Binding) bool { return b.Queue == name })
}

func (x *scene) put(at int, e api.Entry) api.Errno {
	if x.next > lastSeq {
		return 2
	}
	if e.Seq != x.next {
		return 171
	}
	if err := x.queues[at].putError(e); err != 0 {
		return err
	}
	e.Data = slices.Clone(e.Data)
	x.queues[at].l = append(x.queues[at].l, e)
	x.next++
	return 0
}

func (x *scene) take(at, k int) api.Entry {
	q := &x.queues[at]
	e := q.l[k]
	q.l = slices.Delete(q.l, k, k+1)
	return e
}

// openModel is Open, by a scene into which the log is read.
func openModel(d *disk.Disk) (*model, api.Errno) {
	j, batches, e := journal.Open(d)
	if e != api.OK {
		return nil, e
	}
	m := &model{d: d, j: j, scene: scene{next: 1}}
	for _, b := range batches {
		for _, r := range b {
			if !m.replay(string(r)) {
				return nil, 213
			}
		}
	}
	return m, 0
}

// replay carries out one record.
func (x *scene) replay(record string) bool {
	l, rest, is := listIn(record)
	if !is || len(l) == 0 || l[0].kind != 'u' || rest != "" && l[0].n != 5 {
		return false
	}
	forms := map[uint64]string{1: "ususu", 2: "us", 3: "uss", 4: "uss", 5: "uslbiu", 6: "usl", 8: "uslslu"}
	form := ""
	for _, v := range l {
		form += string(v.kind)
	}
	if form != forms[l[0].n] {
		return false
	}
	op := api.Op{Kind: int(l[0].n), Queue: l[1].s}
	switch op.Kind {
	case 1:
		op.Config = api.QueueConfig{Name: l[1].s, Most: int(l[2].n), Dead: l[3].s, Tries: int(l[4].n), Durable: true}
	case 3, 4:
		op.Pattern, op.Queue = l[1].s, l[2].s
	case 5:
		return x.replayPut(op.Queue, l[2].n, api.Entry{Priority: int(l[3].n), Expiry: int(l[4].n), Durable: true, Count: int(l[5].n), Data: []byte(rest)})
	case 6, 8:
		if l[2].n > lastSeq {
			return false
		}
		op.Seq = int(l[2].n)
	}
	if op.Kind < 8 {
		_, e := x.do(op)
		return e == 0
	}
	at := x.at(op.Queue)
	if at < 0 || x.queues[at].at(op.Seq) < 0 {
		return false
	}
	e := x.take(at, x.queues[at].at(op.Seq))
	e.Count = int(l[5].n)
	return x.replayPut(l[3].s, l[4].n, e)
}

func (x *scene) replayPut(queue string, seq uint64, e api.Entry) bool {
	at := x.at(queue)
	if at < 0 || seq > lastSeq || seq < uint64(x.next) {
		return false
	}
	x.next, e.Seq = int(seq), int(seq)
	return x.put(at, e) == 0
}

// atom is an element of a record: u, l, b, i are the numbers of Uint, Ulong, Ubyte and Long, s is a String.
type atom struct {
	kind byte
	n    uint64
	s    string
}

// listIn reads the List that a text begins with, if it has such elements alone, in any form; and what stands behind it.
func listIn(s string) ([]atom, string, bool) {
	var size, count int
	var is bool
	switch {
	case s == "":
		return nil, "", false
	case s[0] == 0x45:
		return nil, s[1:], true
	case s[0] == 0xc0 && len(s) >= 3:
		size, count, s = int(s[1])-1, int(s[2]), s[3:]
	case s[0] == 0xd0 && len(s) >= 9:
		size, count, s = numberIn(s[1:5])-4, numberIn(s[5:9]), s[9:]
	default:
		return nil, "", false
	}
	if size < 0 || size > len(s) {
		return nil, "", false
	}
	inner, rest := s[:size], s[size:]
	var l []atom
	for range count {
		var a atom
		if a, inner, is = atomIn(inner); !is {
			return nil, "", false
		}
		l = append(l, a)
	}
	return l, rest, inner == ""
}

func numberIn(s string) int {
	n := 0
	for i := range len(s) {
		n = n<<8 | int(s[i])
	}
	return n
}

func atomIn(s string) (atom, string, bool) {
	forms := []struct {
		code  byte
		kind  byte
		width int // of the number, or of the text's length
	}{{0x43, 'u', 0}, {0x52, 'u', 1}, {0x70, 'u', 4}, {0x44, 'l', 0}, {0x53, 'l', 1}, {0x80, 'l', 8}, {0x50, 'b', 1}, {0x55, 'i', 1}, {0x81, 'i', 8}, {0xa1, 's', 1}, {0xb1, 's', 4}}
	for _, f := range forms {
		if s == "" || s[0] != f.code || len(s) < 1+f.width {
			continue
		}
		n, rest := numberIn(s[1:1+f.width]), s[1+f.width:]
		if f.kind != 's' {
			if f.kind == 'i' && f.width == 1 {
				n = int(int8(n))
			}
			return atom{kind: f.kind, n: uint64(n)}, rest, true
		}
		if n > len(rest) || !utf8.ValidString(rest[:n]) {
			return atom{}, "", false
		}
		return atom{kind: 's', s: rest[:n]}, rest[n:], true
	}
	return atom{}, "", false
}

// write writes the records that are not empty; if there are any.
func (m *model) write(records ...string) api.Errno {
	var l [][]byte
	for _, r := range records {
		if r != "" {
			l = append(l, []byte(r))
		}
	}
	if len(l) == 0 {
		return 0
	}
	return m.j.Add(l...)
}

func (m *model) Apply(ops []api.Op) (int, api.Errno) {
	if !m.d.Up() {
		return 0, 3
	}
	x := m.scene.copied()
	var records []string
	for i, op := range ops {
		r, e := x.do(op)
		if e != 0 {
			return i, e
		}
		records = append(records, r)
	}
	if e := m.write(records...); e != 0 {
		return 0, e
	}
	m.scene = x
	return 0, 0
}

func (m *model) Next() int { return m.next }

// ordered are the messages of a queue in the queue's order, found one by one.
func (q *mQueue) ordered() []api.Entry {
	var l []api.Entry
	for priority := 9; priority >= 0; priority-- {
		for _, e := range q.l {
			if e.Priority == priority {
				e.Data = slices.Clone(e.Data)
				l = append(l, e)
			}
		}
	}
	return l
}

func (m *model) Take(queue string, holder int, fits func(api.Entry) bool) (api.Entry, bool) {
	at := m.at(queue)
	if at < 0 || holder < 1 || !m.d.Up() {
		return api.Entry{}, false
	}
	for _, e := range m.queues[at].ordered() {
		if e.Holder == 0 && (fits == nil || fits(turned(e, func(*api.Entry) {}))) {
			e.Holder = holder
			m.queues[at].l[m.queues[at].at(e.Seq)].Holder = holder
			return e, true
		}
	}
	return api.Entry{}, false
}

func (m *model) Peek(queue string, behind int, fits func(api.Entry) bool) (api.Entry, bool) {
	at := m.at(queue)
	if at < 0 {
		return api.Entry{}, false
	}
	for _, e := range m.queues[at].l {
		if e.Holder == 0 && e.Seq > behind && (fits == nil || fits(turned(e, func(*api.Entry) {}))) {
			return turned(e, func(*api.Entry) {}), true
		}
	}
	return api.Entry{}, false
}

func (m *model) Back(queue string, seq, holder int, failed bool) api.Errno {
	return m.giveBack(queue, seq, holder, func(c api.QueueConfig, e *api.Entry) bool {
		if !failed {
			return false
		}
		e.Count = min(e.Count+1, maxWord)
		return c.Tries > 0 && e.Count >= c.Tries
	})
}

func (m *model) Bury(queue string, seq, holder int) api.Errno {
	return m.giveBack(queue, seq, holder, func(api.QueueConfig, *api.Entry) bool { return true })
}

// giveBack gives a held message back, or buries it.
func (m *model) giveBack(queue string, seq, holder int, dies func(c api.QueueConfig, e *api.Entry) bool) api.Errno {
	at := m.at(queue)
	switch {
	case !m.d.Up():
		return 3
	case at < 0:
		return 210
	}
	k := m.queues[at].at(seq)
	if k < 0 || holder < 1 || m.queues[at].l[k].Holder != holder {
		return 171
	}
	x := m.scene.copied()
	c := x.queues[at].c
	e := &x.queues[at].l[k]
	e.Holder = 0
	record := ""
	if dies(c, e) {
		record = x.bury(at, k)
	}
	if err := m.write(record); err != 0 {
		return err
	}
	m.scene = x
	return 0
}

// bury buries a message; the record of that.
func (x *scene) bury(at, k int) string {
	c := x.queues[at].c
	e := x.take(at, k)
	old := e.Seq
	was := c.Durable && e.Durable
	to := x.at(c.Dead)
	if to < 0 || len(x.queues[to].l) >= x.queues[to].c.Most || x.next > lastSeq {
		return when(was, removedRecord(c.Name, old))
	}
	e.Seq = x.next
	x.next++
	x.queues[to].l = append(x.queues[to].l, e)
	is := x.queues[to].c.Durable && e.Durable
	switch {
	case was && is:
		return movedRecord(c.Name, old, c.Dead, e.Seq, e.Count)
	case is:
		return putRecord(c.Dead, e)
	}
	return when(was, removedRecord(c.Name, old))
}

func (m *model) Release(holder int) api.Errno {
	if !m.d.Up() {
		return 3
	}
	for _, q := range m.queues {
		for k := range q.l {
			if holder >= 1 && q.l[k].Holder == holder {
				q.l[k].Holder = 0
			}
		}
	}
	return 0
}

// sorted are the places of the queues by rising names.
func (x *scene) sorted() []int {
	var names []string
	for _, q := range x.queues {
		names = append(names, q.c.Name)
	}
	slices.Sort(names)
	var l []int
	for _, name := range names {
		l = append(l, x.at(name))
	}
	return l
}

func (m *model) Expire(now int) (int, api.Errno) {
	if !m.d.Up() {
		return 0, 3
	}
	x := m.scene.copied()
	var records []string
	n := 0
	for _, at := range x.sorted() {
		for _, e := range x.queues[at].ordered() {
			if e.Holder == 0 && e.Expiry >= 0 && e.Expiry <= now {
				n++
				r, _ := x.do(remove(x.queues[at].c.Name, e.Seq))
				records = append(records, r)
			}
		}
	}
	if e := m.write(records...); e != 0 {
		return 0, e
	}
	m.scene = x
	return n, 0
}

func (m *model) Queues() []api.QueueConfig {
	var l []api.QueueConfig
	for _, at := range m.sorted() {
		l = append(l, m.queues[at].c)
	}
	return l
}

func (m *model) Entries(queue string) []api.Entry {
	if at := m.at(queue); at >= 0 {
		return m.queues[at].ordered()
	}
	return nil
}

func (m *model) Bindings() []api.Binding {
	l := slices.Clone(m.binds)
	slices.SortFunc(l, func(a, b api.Binding) int {
		return strings.Compare(a.Pattern+"\x00"+a.Queue, b.Pattern+"\x00"+b.Queue)
	})
	return l
}

func (m *model) Match(topic string) ([]string, api.Errno) {
	if !isTopic.MatchString(topic) {
		return nil, 82
	}
	var l []string
	for _, b := range m.binds {
		if fitting(b.Pattern).MatchString(topic+".") && !slices.Contains(l, b.Queue) {
			l = append(l, b.Queue)
		}
	}
	slices.Sort(l)
	return l, 0
}

// fitting is what the topics look like that a pattern fits, a point behind each word.
func fitting(pattern string) *regexp.Regexp {
	s := "^"
	for part := range strings.SplitSeq(pattern, ".") {
		switch part {
		case "*":
			s += `[^.]+\.`
		case "#":
			s += `([^.]+\.)*`
		default:
			s += part + `\.`
		}
	}
	return regexp.MustCompile(s + "$")
}

func (m *model) Compact() api.Errno {
	if !m.d.Up() {
		return 3
	}
	var l [][]byte
	for _, r := range m.whole() {
		l = append(l, []byte(r))
	}
	return m.j.Shorten([][][]byte{l})
}

// whole are the records of all that is written.
func (m *model) whole() []string {
	var records []string
	puts := map[int]string{}
	for _, c := range m.Queues() {
		if c.Durable {
			records = append(records, madeRecord(c))
			for _, e := range m.Entries(c.Name) {
				if e.Durable {
					puts[e.Seq] = putRecord(c.Name, e)
				}
			}
		}
	}
	for _, b := range m.Bindings() {
		if m.queues[m.at(b.Queue)].c.Durable {
			records = append(records, boundRecord(b.Pattern, b.Queue))
		}
	}
	var seqs []int
	for seq := range puts {
		seqs = append(seqs, seq)
	}
	slices.Sort(seqs)
	for _, seq := range seqs {
		records = append(records, puts[seq])
	}
	return records
}
