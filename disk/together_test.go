package disk_test

import (
	"bytes"
	"fmt"
	"math/rand"
	"slices"
	"sync"
	"testing"

	"longshore/api"
	"longshore/disk"
)

// together runs n workers at once, and waits for all.
func together(n int, work func(i int)) {
	var all sync.WaitGroup
	begin := make(chan struct{})
	for i := range n {
		all.Go(func() {
			<-begin
			work(i)
		})
	}
	close(begin)
	all.Wait()
}

// Calls from several goroutines at once: each Append is done as a whole, and none is lost; whoever looks sees whole ones.
func TestAppendsTogether(t *testing.T) {
	const workers, times, size = 8, 200, 7
	d := made(t, workers*times*size)
	isWhole := func(b []byte) bool {
		for ; len(b) > 0; b = b[size:] {
			if len(b) < size || !bytes.Equal(b[:size], bytes.Repeat(b[:1], size)) {
				return false
			}
		}
		return true
	}
	var broken sync.Map
	together(workers, func(i int) {
		for range times {
			if e := d.Append("log", bytes.Repeat([]byte{byte(i)}, size)); e != api.OK {
				broken.Store("Append", e)
			}
			if b, e := d.Read("log"); e != api.OK || !isWhole(b) {
				broken.Store("Read", e)
			}
			if i == 0 {
				d.Sync("log")
			}
			if l := d.Files(); len(l) != 1 || !isWhole(l[0].Data) || l[0].Safe%size != 0 {
				broken.Store("Files", told(l))
			}
		}
	})
	broken.Range(func(what, why any) bool { t.Errorf("%s: %v", what, why); return true })
	b, _ := d.Read("log")
	for i := range workers {
		if n := bytes.Count(b, []byte{byte(i)}); n != times*size {
			t.Errorf("%d bytes of worker %d", n, i)
		}
	}
	wantErrno(t, "Append to what is full", d.Append("log", []byte{0}), api.ErrDiskFull)
}

// Each act takes one from what is left, whoever does it; the power fails in one of them.
func TestArmedTogether(t *testing.T) {
	for n := range 40 {
		d := made(t, 100)
		d.Arm(n, 9)
		done := make([]int, 8)
		together(len(done), func(i int) {
			for range 2 * n {
				if d.Append("log", []byte{1}) == api.OK {
					done[i]++
				}
			}
			d.Append("log", []byte{1})
		})
		sum := 0
		for _, k := range done {
			sum += k
		}
		if sum != n {
			t.Fatalf("%d acts were done, want %d", sum, n)
		}
		if l := d.Files(); len(l) != 1 || len(l[0].Data) != min(n+1, 9) || l[0].Safe != len(l[0].Data) || d.Up() {
			t.Fatalf("behind %d acts: %s", n, told(l))
		}
	}
}

// The room is never passed, whoever comes at once.
func TestRoomTogether(t *testing.T) {
	for room := range 30 {
		d := made(t, room)
		together(8, func(i int) {
			name := string(rune('a' + i%3))
			for range room + 1 {
				d.Append(name, []byte{1})
			}
		})
		sum := 0
		for _, f := range d.Files() {
			sum += len(f.Data)
		}
		if sum != room {
			t.Fatalf("%d bytes in a room of %d", sum, room)
		}
	}
}

// answered is a call with its answer.
type answered struct {
	asked
	answer string
}

// hasOrder tells whether the workers' calls can be done one behind the other, each worker's in their order, so that all is answered so and the end is this one.
func hasOrder(m *model, workers [][]answered, end string) bool {
	over := true
	for i, l := range workers {
		if len(l) == 0 {
			continue
		}
		over = false
		next, left := m.copied(), slices.Clone(workers)
		left[i] = l[1:]
		if l[0].call(next) == l[0].answer && hasOrder(next, left, end) {
			return true
		}
	}
	return over && seen(m) == end
}

// Any calls from several goroutines at once: what is answered, and how all stands then, is as if they had come one behind the other.
func TestAnyCallsTogether(t *testing.T) {
	r := rand.New(rand.NewSource(196))
	for range 1500 {
		files := []api.File{file("a", "12", 1), file("b", "", 0), file("log", "345", 3)}
		d := loaded(t, 30, files...)
		m, _ := loadModel(files, 30)
		workers := make([][]answered, 3)
		for i := range workers {
			for range 3 {
				workers[i] = append(workers[i], answered{asked: anyCall(r)})
			}
		}
		together(len(workers), func(i int) {
			for j, a := range workers[i] {
				workers[i][j].answer = a.call(d)
			}
		})
		if !hasOrder(m, workers, seen(d)) {
			for _, l := range workers {
				for _, a := range l {
					t.Logf("%s: %s", a.name, a.answer)
				}
				t.Log("beside")
			}
			t.Fatalf("no order of the calls answers so; then: %s", seen(d))
		}
	}
}

// The search above sees what can't be.
func TestOrderIsSeen(t *testing.T) {
	put := func(b string) answered {
		return answered{asked{"Append", func(d calls) string { return fmt.Sprint(d.Append("a", []byte(b))) }}, "0"}
	}
	read := func(answer string) answered {
		return answered{asked{"Read", func(d calls) string { b, e := d.Read("a"); return fmt.Sprintf("%s %d", b, e) }}, answer}
	}
	for _, c := range []struct {
		first, second, end string
		want               bool
	}{{" 191", "xy 0", "xy", true}, {"x 0", "x 0", "xy", true}, {"x 0", "xy 0", "xy", true}, {"xy 0", "x 0", "xy", false}, {"y 0", "xy 0", "xy", false}, {"x 0", " 191", "xy", false}, {"x 0", "xy 0", "yx", false}, {"x 0", "xy 0", "x", false}} {
		workers := [][]answered{{put("x"), put("y")}, {read(c.first), read(c.second)}}
		if got := hasOrder(newModel(30), workers, seen(loaded(t, 30, file("a", c.end, 0)))); got != c.want {
			t.Errorf("%+v: %v", c, got)
		}
	}
}

// Several disks at once, each used by a goroutine of its own, have nothing in common.
func TestDisksTogether(t *testing.T) {
	shared := inBusy()
	wrong := make([]string, 8)
	together(len(wrong), func(i int) {
		r := rand.New(rand.NewSource(int64(i)))
		d, _ := disk.Load(shared, 40)
		m, _ := loadModel(shared, 40)
		for range 500 {
			a := anyCall(r)
			if got, want := a.call(d), a.call(m); got != want {
				wrong[i] = fmt.Sprintf("%s: %s, want %s", a.name, got, want)
				return
			}
		}
	})
	for _, w := range wrong {
		if w != "" {
			t.Error(w)
		}
	}
}
