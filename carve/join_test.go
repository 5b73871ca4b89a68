package carve_test

import (
	"math"
	"math/rand"
	"testing"

	"longshore/api"
	"longshore/carve"
	"longshore/perform"
)

// wantOn hands a transfer to a Joiner from which nothing comes, and wants this error and what is held then.
func wantOn(t *testing.T, j *carve.Joiner, p api.Perform, payload string, e api.Errno, held bool, n int) {
	t.Helper()
	want(t, j, p, payload, api.Delivery{}, false, e)
	wantHeld(t, j, held, n)
}

// wantWhole hands a transfer to a Joiner with which a delivery is whole.
func wantWhole(t *testing.T, j *carve.Joiner, p api.Perform, payload string, d api.Delivery) {
	t.Helper()
	want(t, j, p, payload, d, true, api.OK)
	wantHeld(t, j, false, 0)
}

func want(t *testing.T, j *carve.Joiner, p api.Perform, payload string, d api.Delivery, whole bool, e api.Errno) {
	t.Helper()
	got, gotWhole, gotE := j.On(p, []byte(payload))
	if !alike(got, d) || gotWhole != whole || gotE != e {
		t.Fatalf("On(%s, %q): %s, %v, %d, want %s, %v, %d", told(p), brief(payload), told(got), gotWhole, gotE, told(d), whole, e)
	}
}

func wantHeld(t *testing.T, j *carve.Joiner, held bool, n int) {
	t.Helper()
	for range 2 {
		if gotHeld, got := j.Held(); gotHeld != held || got != n {
			t.Fatalf("Held: %v, %d, want %v, %d", gotHeld, got, held, n)
		}
	}
}

// said is the delivery of a number, a tag and bytes of which nothing else was said.
func said(id int, tag, data string) api.Delivery {
	return api.Delivery{Id: id, Tag: tag, Format: -1, Data: []byte(data)}
}

// P12.2
func TestNew(t *testing.T) {
	for _, most := range []int{-1, math.MinInt, api.MaxMessage + 1, math.MaxInt, 1 << 32, -api.MaxMessage} {
		if carve.New(most) != nil {
			t.Errorf("New(%d) is no nil", most)
		}
	}
	for _, most := range []int{0, 1, 10, api.MaxMessage - 1, api.MaxMessage} {
		j := joiner(t, most)
		wantHeld(t, j, false, 0)
		if most > 0 {
			data := text(most)
			wantOn(t, j, transfer(0, "t", more), data[1:], api.OK, true, most-1)
			wantWhole(t, j, further(), data[:1], said(0, "t", data[1:]+data[:1]))
			wantWhole(t, j, transfer(0, "t"), data, said(0, "t", data))
		}
		wantWhole(t, j, transfer(0, "t"), "", said(0, "t", ""))
		wantOn(t, j, transfer(0, "t"), text(most+1), api.ErrTooMuch, false, 0)
		wantOn(t, j, transfer(0, "t", more), text(most+1), api.ErrTooMuch, true, 0)
	}
}

// P12.3, 1: what is no transfer, whatever else it says, with nothing unfinished, with a delivery unfinished, with one that is passed over.
func TestOnOfOtherKinds(t *testing.T) {
	for _, k := range kinds {
		odd := []api.Perform{perform.Blank(k), {Kind: k}, transfer(7, "t", kind(k)), transfer(7, "t", kind(k), more), transfer(7, "t", kind(k), aborted), transfer(8, "u", kind(k)), transfer(-1, noTag, kind(k)), transfer(-9, long(40), kind(k), format(3)), turned(fullTransfer(states[6]), kind(k))}
		for i := range odd {
			odd[i].Kind = k
		}
		for _, payload := range []string{"", "ab", "elevenbytes"} {
			wantNothingChanged(t, odd, payload, api.ErrPerform, begun, midst, over)
		}
	}
}

// How a Joiner of ten bytes may stand: nothing is unfinished; the delivery 7 "t" is, of which "abc" came; it is passed over.
const (
	begun = iota
	midst
	over
)

// standing is a Joiner that stands so.
func standing(t *testing.T, how int) *carve.Joiner {
	t.Helper()
	j := joiner(t, 10)
	switch how {
	case midst:
		wantOn(t, j, transfer(7, "t", more, format(2)), "abc", api.OK, true, 3)
	case over:
		wantOn(t, j, transfer(7, "t", more, format(2)), "elevenbytes", api.ErrTooMuch, true, 0)
	}
	return j
}

// goOn wants a Joiner that stands so to go on as if nothing had come.
func goOn(t *testing.T, j *carve.Joiner, how int) {
	t.Helper()
	whole := api.Delivery{Id: 7, Tag: "t", Format: 2, Data: []byte("abcd")}
	switch how {
	case begun:
		wantHeld(t, j, false, 0)
		wantOn(t, j, further(), "d", api.ErrTag, false, 0)
		wantOn(t, j, transfer(7, "t", more, format(2)), "abc", api.OK, true, 3)
		wantWhole(t, j, further(), "d", whole)
	case midst:
		wantHeld(t, j, true, 3)
		wantWhole(t, j, further(), "d", whole)
	case over:
		wantHeld(t, j, true, 0)
		wantOn(t, j, transfer(8, noTag), "", api.ErrMixed, true, 0)
		wantOn(t, j, further(), "d", api.OK, false, 0)
	}
}

// wantNothingChanged hands transfers to Joiners, one by one and all of them, and wants this error of each, and then no change.
func wantNothingChanged(t *testing.T, l []api.Perform, payload string, e api.Errno, hows ...int) {
	t.Helper()
	for _, how := range hows {
		all := standing(t, how)
		heldAt, n := all.Held()
		for _, p := range l {
			one := standing(t, how)
			wantOn(t, one, p, payload, e, heldAt, n)
			goOn(t, one, how)
			wantOn(t, all, p, payload, e, heldAt, n)
		}
		goOn(t, all, how)
	}
}

// P12.3, 2: what must be said at the beginning: else ErrTag, ahead of what would come of it.
func TestBeginnings(t *testing.T) {
	wrong := []api.Perform{further(), transfer(0, noTag), transfer(7, noTag), transfer(-1, "t"), transfer(-1, ""), transfer(-2, "t"), transfer(math.MinInt, "t"), transfer(7, long(33)), transfer(7, long(1000)), transfer(-1, long(33)), transfer(7, noTag, withTag("t")), transfer(7, noTag, withTag(long(33)))}
	for _, payload := range []string{"", "ab", "elevenbytes"} {
		for _, turns := range [][]turn{nil, {more}, {aborted}, {aborted, more}, {settled, format(4), state(states[2])}} {
			var l []api.Perform
			for _, p := range wrong {
				l = append(l, turned(p, turns...))
			}
			wantNothingChanged(t, l, payload, api.ErrTag, begun)
		}
	}
	j := joiner(t, 10)
	for _, id := range []int{0, 1, 7, api.MaxWord, api.MaxWord + 1, math.MaxInt} {
		for _, tag := range []string{"", "t", "\x00", "\xff\xfe", long(31), long(32)} {
			wantWhole(t, j, transfer(id, tag), "ab", said(id, tag, "ab"))
			wantOn(t, j, transfer(id, tag, more), "ab", api.OK, true, 2)
			wantWhole(t, j, further(), "c", said(id, tag, "abc"))
		}
	}
	for _, n := range []int{-1, 0, 1, api.MaxWord, api.MaxWord + 1, math.MaxInt, -2, math.MinInt} {
		d := api.Delivery{Id: 3, Tag: "t", Format: n, Data: []byte("ab")}
		wantWhole(t, j, transfer(3, "t", format(n)), "ab", d)
		wantOn(t, j, transfer(3, "t", format(n), more), "a", api.OK, true, 1)
		wantWhole(t, j, further(), "b", d)
	}
}

// P12.3, 2: a further transfer may say the number, the tag and the format again, each or none of them.
func TestFurtherOnesThatGoOn(t *testing.T) {
	same := func(n int) []int { return []int{n, -1, -2, math.MinInt} }
	for _, id := range []int{0, 7, api.MaxWord} {
		for _, tag := range []string{"", "t", long(32)} {
			for _, f := range []int{-1, 0, 5} {
				for _, n := range same(id) {
					for _, g := range same(f) {
						for _, again := range []string{tag, noTag} {
							j := joiner(t, 10)
							d := api.Delivery{Id: id, Tag: tag, Format: f, Data: []byte("abc")}
							wantOn(t, j, transfer(id, tag, format(f), more), "a", api.OK, true, 1)
							wantOn(t, j, transfer(n, again, format(g), more), "b", api.OK, true, 2)
							wantWhole(t, j, transfer(n, again, format(g)), "c", d)
						}
					}
				}
			}
		}
	}
	// A Tag is not looked at where HasTag says that there is none, nor is the handle, nor what else a transfer says.
	j := joiner(t, 10)
	wantOn(t, j, transfer(7, "t", more), "a", api.OK, true, 1)
	wantOn(t, j, further(withTag("u"), more), "b", api.OK, true, 2)
	wantOn(t, j, further(handle(99), resumed, batched, settledUnsaid, withName("x"), more), "c", api.OK, true, 3)
	wantWhole(t, j, further(handle(-5)), "d", said(7, "t", "abcd"))
}

// P12.3, 2: ErrMixed of another number, another tag, another format, with all else right, ahead of what would come of it; also of a delivery that is passed over.
func TestFurtherOnesOfOthers(t *testing.T) {
	wrong := []api.Perform{
		transfer(8, noTag), transfer(0, noTag), transfer(6, "t"), transfer(8, "t", format(2)), transfer(7+1<<32, "t"), transfer(math.MaxInt, noTag),
		transfer(-1, "u"), transfer(7, "u"), transfer(7, ""), transfer(-1, "", format(2)), transfer(-1, "tt"), transfer(-1, "T"), transfer(7, long(33)),
		further(format(0)), further(format(1)), further(format(3)), transfer(7, "t", format(0)), transfer(7, "t", format(math.MaxInt)),
		transfer(8, "u"), transfer(8, "u", format(3)), transfer(-1, "u", format(3)), transfer(8, noTag, format(3)),
	}
	for _, payload := range []string{"", "d", "elevenbytes"} {
		for _, turns := range [][]turn{nil, {more}, {aborted}, {aborted, more}, {settled, state(states[2])}} {
			var l []api.Perform
			for _, p := range wrong {
				l = append(l, turned(p, turns...))
			}
			wantNothingChanged(t, l, payload, api.ErrMixed, midst, over)
		}
	}
	// Of a delivery without a format a further transfer has none, either.
	j := joiner(t, 10)
	wantOn(t, j, transfer(7, "t", more), "a", api.OK, true, 1)
	for _, n := range []int{0, 1, api.MaxWord} {
		wantOn(t, j, further(format(n)), "b", api.ErrMixed, true, 1)
	}
	wantWhole(t, j, transfer(7, "t", format(-1)), "b", said(7, "t", "ab"))
	// Of one whose tag is empty a tag is another one.
	wantOn(t, j, transfer(0, "", more), "a", api.OK, true, 1)
	wantOn(t, j, further(withTag("t"), func(p *api.Perform) { p.HasTag = true }), "b", api.ErrMixed, true, 1)
	wantWhole(t, j, transfer(0, ""), "b", said(0, "", "ab"))
}

// P12.3, 3: an aborted transfer ends the delivery; neither its payload nor its More is looked at.
func TestAborted(t *testing.T) {
	for _, turns := range [][]turn{{aborted}, {aborted, more}, {aborted, settled, state(states[2])}} {
		for _, payload := range []string{"", "b", "tenbytes..", "elevenbytes"} {
			for how := begun; how <= over; how++ {
				ends := []api.Perform{transfer(7, "t", turns...), transfer(7, "t", append(turns, format(2))...)}
				if how != begun {
					ends = append(ends, further(turns...), transfer(7, noTag, turns...), transfer(-1, "t", turns...))
				}
				for _, p := range ends {
					j := standing(t, how)
					wantOn(t, j, p, payload, api.OK, false, 0)
					wantOn(t, j, further(), "c", api.ErrTag, false, 0)
					wantOn(t, j, transfer(7, "t", more), "de", api.OK, true, 2)
					wantWhole(t, j, further(), "f", said(7, "t", "def"))
				}
			}
		}
	}
	j := joiner(t, 0)
	wantOn(t, j, transfer(7, "t", aborted), "ab", api.OK, false, 0)
	wantOn(t, j, transfer(7, "t", aborted), "ab", api.OK, false, 0)
	wantWhole(t, j, transfer(7, "t"), "", said(7, "t", ""))
}

// P12.3, 4: the payload that reaches most is taken, one byte more is too much: at the first, a further and the last transfer.
func TestTooMuch(t *testing.T) {
	for _, most := range []int{0, 1, 2, 10, 1000, api.MaxMessage} {
		for _, had := range []int{0, 1, most / 2, most - 1, most} {
			if had < 0 || had > most {
				continue
			}
			data := text(most + 1)
			j := joiner(t, most)
			wantOn(t, j, transfer(7, "t", more), data[:had], api.OK, true, had)
			wantOn(t, j, further(more), data[had:most], api.OK, true, most)
			wantWhole(t, j, further(), "", said(7, "t", data[:most]))

			wantOn(t, j, transfer(8, "u", more), data[:had], api.OK, true, had)
			wantWhole(t, j, further(), data[had:most], said(8, "u", data[:most]))

			wantOn(t, j, transfer(9, "v", more), data[:had], api.OK, true, had)
			wantOn(t, j, further(), data[had:], api.ErrTooMuch, false, 0)

			wantOn(t, j, transfer(10, "w", more), data[:had], api.OK, true, had)
			wantOn(t, j, further(more), data[had:], api.ErrTooMuch, true, 0)
			wantPassedOver(t, j, 10, "w")

			wantOn(t, j, transfer(11, "x", more), data[:most], api.OK, true, most)
			wantOn(t, j, further(more), "", api.OK, true, most)
			wantOn(t, j, further(more), "y", api.ErrTooMuch, true, 0)
			wantPassedOver(t, j, 11, "x")
		}
		j := joiner(t, most)
		wantWhole(t, j, transfer(0, "t"), text(most), said(0, "t", text(most)))
		wantOn(t, j, transfer(0, "t"), text(most+1), api.ErrTooMuch, false, 0)
		wantOn(t, j, transfer(0, "t", more), text(most+1), api.ErrTooMuch, true, 0)
		wantPassedOver(t, j, 0, "t")
	}
}

// wantPassedOver wants no more of an unfinished delivery up to its end, and then the next one.
func wantPassedOver(t *testing.T, j *carve.Joiner, id int, tag string) {
	t.Helper()
	for _, payload := range []string{"", "x", text(100), text(api.MaxMessage + 1)} {
		wantOn(t, j, further(more), payload, api.OK, true, 0)
		wantOn(t, j, transfer(id, tag, more, settled, state(states[2])), payload, api.OK, true, 0)
	}
	wantOn(t, j, transfer(id+1, tag, more), "", api.ErrMixed, true, 0)
	wantOn(t, j, transfer(id, tag+"x"), "", api.ErrMixed, true, 0)
	wantOn(t, j, further(format(0)), "", api.ErrMixed, true, 0)
	wantOn(t, j, further(kind(api.KFlow)), "", api.ErrPerform, true, 0)
	wantOn(t, j, further(), "", api.OK, false, 0)
	wantOn(t, j, further(), "", api.ErrTag, false, 0)
	wantWhole(t, j, transfer(id, tag), "", said(id, tag, ""))
}

// P12.3, 4: what ends a delivery that is passed over, and what begins behind it: nothing of the old one is in it.
func TestBehindOneThatIsPassedOver(t *testing.T) {
	for _, last := range []api.Perform{further(), transfer(7, "t"), transfer(7, "t", format(2)), further(settled, state(states[2])), further(aborted), further(aborted, more)} {
		for _, payload := range []string{"", "x", "elevenbytes"} {
			j := joiner(t, 10)
			wantOn(t, j, transfer(7, "t", more, settled, format(2), state(states[6])), "abc", api.OK, true, 3)
			wantOn(t, j, further(more, settled, state(states[3])), "12345678", api.ErrTooMuch, true, 0)
			wantOn(t, j, further(more, settled, state(states[3])), "12345678", api.OK, true, 0)
			wantOn(t, j, last, payload, api.OK, false, 0)
			wantOn(t, j, transfer(8, "u", more), "tenbyte", api.OK, true, 7)
			wantWhole(t, j, further(), "s..", said(8, "u", "tenbytes.."))
		}
	}
}

// P12.3: whether the delivery is settled, and its state: said early, late, twice, never.
func TestSettledAndState(t *testing.T) {
	marks := map[string]turn{"nothing": func(*api.Perform) {}, "settled": settled, "unsettled": unsettled, "settled, not said": settledUnsaid}
	for a, first := range marks {
		for b, second := range marks {
			for c, third := range marks {
				j := joiner(t, 10)
				d := said(7, "t", "abc")
				d.Settled = a == "settled" || b == "settled" || c == "settled"
				wantOn(t, j, transfer(7, "t", more, first), "a", api.OK, true, 1)
				wantOn(t, j, further(more, second), "b", api.OK, true, 2)
				wantWhole(t, j, further(third), "c", d)
				d.Data, d.Settled = []byte("z"), a == "settled"
				wantWhole(t, j, transfer(7, "t", first), "z", d)
			}
		}
	}
	all := append(append([]api.State{}, states...), oddStates...)
	for i, s := range all {
		other := all[(i+5)%len(all)]
		for _, zero := range zeros {
			for _, row := range [][3]api.State{{s, zero, zero}, {zero, s, zero}, {zero, zero, s}, {other, s, zero}, {other, zero, s}, {zero, other, s}, {s, s, s}, {zero, zero, zero}} {
				wantLastState(t, row)
			}
		}
	}
}

// wantLastState wants a delivery to have the last one of three states in which something is said.
func wantLastState(t *testing.T, row [3]api.State) {
	t.Helper()
	d := said(7, "t", "abc")
	for _, s := range row {
		if !isZero(s) {
			d.State = s
		}
	}
	j := joiner(t, 10)
	wantOn(t, j, transfer(7, "t", more, state(row[0])), "a", api.OK, true, 1)
	wantOn(t, j, further(more, state(row[1])), "b", api.OK, true, 2)
	wantWhole(t, j, further(state(row[2])), "c", d)
	wantWhole(t, j, transfer(8, "u"), "z", said(8, "u", "z"))
}

// P12.3: of a transfer that is refused nothing is taken, neither that it is settled nor its state.
func TestNothingOfARefusedOne(t *testing.T) {
	j := joiner(t, 10)
	wantOn(t, j, transfer(7, "t", more), "a", api.OK, true, 1)
	wantOn(t, j, transfer(8, noTag, settled, state(states[2])), "b", api.ErrMixed, true, 1)
	wantOn(t, j, further(kind(0), settled, state(states[2])), "b", api.ErrPerform, true, 1)
	wantWhole(t, j, further(), "c", said(7, "t", "ac"))
	wantOn(t, j, further(settled, state(states[2])), "c", api.ErrTag, false, 0)
	wantWhole(t, j, transfer(8, "u"), "d", said(8, "u", "d"))
}

// P12.4: Held changes nothing, and is asked of a new Joiner, too.
func TestHeld(t *testing.T) {
	j := joiner(t, api.MaxMessage)
	wantHeld(t, j, false, 0)
	wantOn(t, j, transfer(0, "", more), "", api.OK, true, 0)
	sum := 0
	for n := range 1400 {
		sum += n
		wantOn(t, j, further(more), text(n), api.OK, true, sum)
	}
	wantOn(t, j, further(more), text(api.MaxMessage-sum), api.OK, true, api.MaxMessage)
	wantOn(t, j, further(more), "x", api.ErrTooMuch, true, 0)
	wantOn(t, j, further(), "", api.OK, false, 0)
}

// asModel plays a row of transfers at a Joiner and at the model.
func asModel(t *testing.T, most int, row []came) {
	t.Helper()
	j, m := joiner(t, most), modelJoiner{most: most}
	for i, c := range row {
		d, whole, e := m.on(c.p, c.payload)
		got, gotWhole, gotE := j.On(c.p, []byte(c.payload))
		held, n := m.held()
		gotHeld, gotN := j.Held()
		if !alike(got, d) || gotWhole != whole || gotE != e || gotHeld != held || gotN != n {
			t.Fatalf("New(%d), transfer %d of %s: %s, %v, %d, held %v, %d, want %s, %v, %d, held %v, %d", most, i, told(row), told(got), gotWhole, gotE, gotHeld, gotN, told(d), whole, e, held, n)
		}
	}
}

// P12.3, P12.4: all rows of four out of some transfers, as the model.
func TestAllRows(t *testing.T) {
	few := []came{
		{transfer(7, "t"), "a"}, {transfer(7, "t", more), "ab"}, {transfer(8, "u", more, settled), "c"}, {further(), ""}, {further(more), "d"}, {further(more, state(states[2])), ""}, {further(state(states[3]), settled), "ef"},
		{further(aborted), "x"}, {transfer(7, "t", aborted, more), ""}, {transfer(7, noTag), "gh"}, {transfer(-1, "u"), "i"}, {further(kind(api.KFlow)), "j"},
	}
	row := make([]came, 4)
	for i := range len(few) * len(few) * len(few) * len(few) {
		for k := range row {
			row[k] = few[i%len(few)]
			i /= len(few)
		}
		asModel(t, 2, row)
	}
}

// P12.3, P12.4: long rows by chance, as the model.
func TestRowsByChance(t *testing.T) {
	r := rand.New(rand.NewSource(123))
	pick := func(l ...int) int { return l[r.Intn(len(l))] }
	for range 1000 {
		var row []came
		for range 40 {
			p := transfer(pick(-1, -1, -1, 0, 1, 1, 1), []string{noTag, noTag, "", "t", "t", "t", long(33)}[r.Intn(7)], format(pick(-1, -1, -1, 0, 1)))
			for _, turn := range []turn{settled, unsettled, settledUnsaid, more, resumed, state(states[r.Intn(len(states))])} {
				if r.Intn(3) == 0 {
					turn(&p)
				}
			}
			for _, turn := range []turn{aborted, kind(pick(kinds...))} {
				if r.Intn(12) == 0 {
					turn(&p)
				}
			}
			if r.Intn(2) == 0 {
				more(&p)
			}
			row = append(row, came{p, text(r.Intn(6))})
		}
		asModel(t, r.Intn(16), row)
	}
}
