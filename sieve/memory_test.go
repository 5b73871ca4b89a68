package sieve_test

import (
	"fmt"
	"math"
	"reflect"
	"runtime"
	"slices"
	"strconv"
	"strings"
	"sync"
	"testing"
	"unsafe"

	"longshore/api"
	"longshore/message"
	"longshore/sample"
	"longshore/sieve"
)

// lies is where a list or a text lies, up to the end of its room.
type lies struct{ first, behind uintptr }

// places are where all lists and texts in something lie, those that stand in the room behind others too.
func places(x any) []lies {
	var l []lies
	walk(reflect.ValueOf(x), func(v reflect.Value) {
		if v.Kind() == reflect.String {
			first := uintptr(unsafe.Pointer(unsafe.StringData(v.String())))
			l = append(l, lies{first, first + uintptr(v.Len())})
		} else {
			l = append(l, lies{v.Pointer(), v.Pointer() + uintptr(v.Len())*v.Type().Elem().Size()})
		}
	})
	return l
}

// walk tells of all lists in something, each up to the end of its room, ahead of what stands in it, and of all texts. (Texts of one byte lie in one place wherever they come from.)
func walk(v reflect.Value, tell func(reflect.Value)) {
	switch v.Kind() {
	case reflect.Struct:
		for i := range v.NumField() {
			walk(v.Field(i), tell)
		}
	case reflect.Slice:
		if v.Cap() > 0 {
			list := v.Slice(0, v.Cap())
			tell(list)
			for i := range list.Len() {
				walk(list.Index(i), tell)
			}
		}
	case reflect.String:
		if v.Len() > 1 {
			tell(v)
		}
	}
}

// apart tells whether nothing of the one shares memory with something of the others.
func apart(all ...[]lies) bool {
	for i, l := range all {
		for _, other := range all[i+1:] {
			for _, a := range l {
				if slices.ContainsFunc(other, func(b lies) bool { return a.first < b.behind && b.first < a.behind }) {
					return false
				}
			}
		}
	}
	return true
}

// ownLists tells whether no two lists of something share memory.
func ownLists(x any) bool {
	var l []lies
	walk(reflect.ValueOf(x), func(v reflect.Value) {
		if v.Kind() == reflect.Slice {
			l = append(l, lies{v.Pointer(), v.Pointer() + uintptr(v.Len())*v.Type().Elem().Size()})
		}
	})
	slices.SortFunc(l, func(a, b lies) int { return int(int64(a.first) - int64(b.first)) })
	for i := 1; i < len(l); i++ {
		if l[i].first < l[i-1].behind {
			return false
		}
	}
	return true
}

func TestApart(t *testing.T) {
	kids := make([]api.Term, 2, 4)
	if apart(places(of(1, kids...)), places(of(1, kids[:1]...))) || apart(places(kids[:0]), places(kids[3:4])) || !apart(places(kids[:1:1]), places(kids[1:])) || !apart(places(kids), places(make([]api.Term, 2))) {
		t.Error("lists")
	}
	s := strings.Clone("abcd")
	if apart(places(s[:2]), places(s[1:])) || !apart(places(s[:2]), places(s[2:])) || !apart(places(s), places(strings.Clone(s))) {
		t.Error("texts")
	}
	if ownLists(of(1, of(2, kids...), of(2, kids...))) || !ownLists(of(1, of(2, kids...), of(2))) {
		t.Error("lists of one term")
	}
}

// roomy is a copy all lists of which, empty ones too, have room to spare in which marks stand; and whose texts lie elsewhere.
func roomy[T any](x T) T { return withMarks(reflect.ValueOf(x)).Interface().(T) }

func withMarks(v reflect.Value) reflect.Value {
	c := reflect.New(v.Type()).Elem()
	c.Set(v)
	switch v.Kind() {
	case reflect.Struct:
		for i := range v.NumField() {
			c.Field(i).Set(withMarks(v.Field(i)))
		}
	case reflect.String:
		c.SetString(strings.Clone(v.String()))
	case reflect.Slice:
		n := v.Len()
		c.Set(reflect.MakeSlice(v.Type(), n+2, n+2))
		for i := range n {
			c.Index(i).Set(withMarks(v.Index(i)))
		}
		mark(c.Index(n))
		mark(c.Index(n + 1))
		c.Set(c.Slice(0, n))
	}
	return c
}

func mark(v reflect.Value) {
	switch v.Kind() {
	case reflect.Struct:
		for i := range v.NumField() {
			mark(v.Field(i))
		}
	case reflect.String:
		v.SetString("mark")
	case reflect.Int:
		v.SetInt(77)
	case reflect.Uint64:
		v.SetUint(77)
	}
}

// scribble overwrites all lists in something, and the room behind them.
func scribble(x any) {
	var lists []reflect.Value
	walk(reflect.ValueOf(x), func(v reflect.Value) {
		if v.Kind() == reflect.Slice {
			lists = append(lists, v)
		}
	})
	for _, l := range lists {
		for i := range l.Len() {
			mark(l.Index(i))
		}
	}
}

// withRoom is something as text, with what stands in the room behind its lists.
func withRoom(x any) string {
	var b strings.Builder
	var tell func(v reflect.Value)
	tell = func(v reflect.Value) {
		switch v.Kind() {
		case reflect.Struct:
			for i := range v.NumField() {
				b.WriteString(" " + v.Type().Field(i).Name + ":")
				tell(v.Field(i))
			}
		case reflect.Slice:
			b.WriteString("[" + strconv.Itoa(v.Len()))
			for i := range v.Cap() {
				b.WriteString(",")
				tell(v.Slice(0, v.Cap()).Index(i))
			}
			b.WriteString("]")
		case reflect.String:
			b.WriteString(strconv.Quote(v.String()))
		default:
			fmt.Fprint(&b, v.Interface())
		}
	}
	tell(reflect.ValueOf(x))
	return b.String()
}

// both is what Eval is handed.
type both struct {
	Term api.Term
	Of   api.Message
}

// wantNew calls twice, and wants what was handed in as it was, with its room; the answers alike and in memory of their own, and as they were when all else is overwritten.
func wantNew[In, Out any](t *testing.T, in In, call func(In) Out) {
	t.Helper()
	in = roomy(in)
	before, there := withRoom(in), places(in)
	first, second := call(in), call(in)
	if withRoom(in) != before {
		t.Fatalf("%s changed: %s", brief(before), brief(withRoom(in)))
	}
	if told := fmt.Sprintf("%+v", first); told != fmt.Sprintf("%+v", second) {
		t.Fatalf("%s: %s, then %+v", brief(before), brief(told), second)
	}
	if !apart(there, places(first), places(second)) || !ownLists(first) {
		t.Fatalf("%s: %s shares memory", brief(before), brief(fmt.Sprintf("%+v", first)))
	}
	want := fmt.Sprintf("%+v", first)
	scribble(in)
	scribble(second)
	if told := fmt.Sprintf("%+v", first); told != want {
		t.Fatalf("%s: %s became %s", brief(before), brief(want), brief(told))
	}
}

func parsed(s string) api.Term {
	t, _, _ := sieve.Parse(s)
	return t
}

func printed(x api.Term) string {
	s, _ := sieve.Print(x)
	return s
}

// DOC.md's R2: what is handed in stays, with its spare room, also where it is refused; what is answered is new memory.
func TestAnswersAreNew(t *testing.T) {
	for _, wrong := range []int{0, 20, 5} {
		c := chances(int64(170+wrong), wrong)
		for range 400 {
			term := c.term(1 + c.Intn(3))
			wantNew(t, term, sieve.Check)
			wantNew(t, term, printed)
			wantNew(t, both{term, c.message()}, func(x both) api.Value { return sieve.Eval(x.Term, x.Of) })
			wantNew(t, both{term, c.message()}, func(x both) bool { return sieve.Fits(x.Term, x.Of) })
			wantNew(t, c.text(), parsed)
			if modelCheck(term) == api.OK {
				wantNew(t, modelPrint(term), parsed)
			}
			wantNew(t, []string{one(c, someTexts), one(c, somePatterns)}, func(l []string) bool { return sieve.Like(l[0], l[1], '!') })
		}
	}
	for _, text := range []string{"a", "\"a\"", "'a'", "'a''b'", "\"a\"\"b\"", "a = b and c or d", "a in (1, 'x', -2)", "a like 'x!%' escape '!'", "a between b and 'c'", "a and a and a and a and a"} {
		wantNew(t, text, parsed)
	}
}

// DOC.md's R2: what a text or a name says is told in memory of its own, and lists of messages stay as they are.
func TestAnswersOfMessages(t *testing.T) {
	m := with(map[string]api.Value{"s": words("some text"), "b": sample.Text(api.Binary, "bytes\xff"), "l": sample.List(words("in a list"), sample.List(right)), "c": sample.Num(api.Char, 'x')})
	m.Properties.Subject, m.Properties.UserId, m.Properties.MessageId = "subject", "user", sample.List(words("an id"))
	m.Sequences, m.Data = []api.Value{sample.List(right)}, []string{"data"}
	for _, s := range []string{"s", "b", "l", "c", "subject", "user", "id"} {
		wantNew(t, both{name(s), m}, func(x both) api.Value { return sieve.Eval(x.Term, x.Of) })
		wantNew(t, both{of(sieve.Nothing, name(s)), m}, func(x both) api.Value { return sieve.Eval(x.Term, x.Of) })
	}
	wantNew(t, both{str("literal"), m}, func(x both) api.Value { return sieve.Eval(x.Term, x.Of) })
	// What a message's lists have in their room says nothing.
	room := append(sample.Pairs(words("k"), right).List, words("v"), right)
	m.App.List = room[:2]
	wantSaid(t, name("v"), m, unknown)
}

// DOC.md's R3: no list and an empty one are the same.
func TestEmptyLists(t *testing.T) {
	term := of(sieve.And, api.Term{Kind: sieve.Name, Text: "a", Value: api.Value{List: []api.Value{}}, Kids: []api.Term{}}, api.Term{Kind: sieve.Literal, Value: api.Value{Kind: api.Bool, Num: 1, List: []api.Value{}}, Kids: []api.Term{}})
	wantCheck(t, term, api.OK)
	if s, e := sieve.Print(term); s != "a and true" || e != api.OK {
		t.Errorf("%q, %d", s, e)
	}
	wantSaid(t, term, message.Blank(), unknown)
	wantCheck(t, api.Term{Kind: sieve.Fit, Text: "x", Value: api.Value{List: []api.Value{}}, Kids: []api.Term{yes()}}, api.OK)
	wantCheck(t, api.Term{Kind: sieve.Fit, Text: "x", Value: api.Value{Kind: api.String, Text: "!", List: []api.Value{}}, Kids: []api.Term{yes()}}, api.OK)
	m := message.Blank()
	m.App = sample.Pairs(words("a"), api.Value{List: []api.Value{}}, words("b"), api.Value{Kind: api.Long, Num: 5, List: []api.Value{}})
	wantSays(t, "a is null and b = 5", m, right)
}

// DOC.md's R6: what came before a call doesn't matter, nor do calls at the same time.
func TestNothingIsKept(t *testing.T) {
	var all sync.WaitGroup
	for range 4 {
		all.Go(func() {
			for range 20 {
				TestExamplesOfParse(t)
				TestExamplesOfPrint(t)
				TestExamplesOfEval(t)
				scribble(parsed("a = 1 and b > 2.5 or not c"))
			}
		})
	}
	all.Wait()
}

// DOC.md's R1: calls end and do not panic where terms, values and texts are great, and cost no more memory than is in keeping.
func TestGreatArguments(t *testing.T) {
	great := strings.Repeat("é'", 1<<20)
	wantCheck(t, chain(1<<16), api.ErrTerms)
	wantCheck(t, wide(1<<18), api.ErrTerms)
	wantCheck(t, str(great), api.OK)
	wantCheck(t, fit(str(great), great, "!"), api.OK)
	wantCheck(t, fit(str(great), great, "'"), api.ErrOperand)
	wantCheck(t, name(great), api.ErrOperand)
	if s, e := sieve.Print(str(great)); s != "" || e != api.ErrLong {
		t.Errorf("Print of a great text: %d bytes, %d", len(s), e)
	}
	wantSaid(t, fit(str(great), great, ""), api.Message{}, right)
	wantSaid(t, fit(str(great), "%é%é%x", ""), api.Message{}, wrong)
	wantSaid(t, of(sieve.Less, str(great), str(great+"x")), api.Message{}, right)
	wantFault(t, great, 0, api.ErrLong)
	m := with(map[string]api.Value{"v": sample.Within(1<<16-8, api.Value{})})
	wantSays(t, "v is null", m, wrong)
	m.Header.Priority, m.Header.Count, m.Header.Ttl, m.Body = math.MinInt, math.MaxInt, math.MinInt, math.MaxInt
	wantSays(t, "priority = 0 and count = 4294967295 and ttl is null", m, right)
	if before, after := inUse(), inUse(); after > before+1<<22 {
		t.Errorf("%d bytes are kept", after-before)
	}
}

// inUse is how many bytes are in use when those that nobody has any more are given back, behind calls that are handed much.
func inUse() uint64 {
	great := strings.Repeat("x", 1<<22)
	for range 4 {
		sieve.Like(great, great, 'x')
		sieve.Eval(fit(str(great), "%x", ""), api.Message{})
		sieve.Print(str(great))
		parsed("a" + strings.Repeat(" and a", 200))
	}
	runtime.GC()
	var m runtime.MemStats
	runtime.ReadMemStats(&m)
	return m.HeapAlloc
}
