package queue_test

import (
	"slices"
	"strings"
	"testing"

	"longshore/api"
	"longshore/queue"
)

// letters are the bytes that may be in a queue's name.
const letters = "abcdefghijklmnopqrstuvwxyz0123456789-._"

// goodNames and badNames: lengths at their bounds, each byte alone, ahead of others, between and behind them.
func goodNames() []string {
	l := []string{"q", strings.Repeat("x", maxName-1), strings.Repeat("x", maxName), letters, strings.Repeat(".", maxName)}
	for i := range len(letters) {
		b := letters[i : i+1]
		l = append(l, b, b+"yz", "y"+b+"z", "yz"+b)
	}
	return l
}

func badNames() []string {
	l := []string{strings.Repeat("x", maxName+1), strings.Repeat("x", 100*maxName), "Q", "a b", "queue/q", "\u00e4", "q\u0301", "q\n", "\xff"}
	for b := range 256 {
		if s := string([]byte{byte(b)}); !strings.Contains(letters, s) {
			l = append(l, s, s+"yz", "y"+s+"z", "yz"+s, strings.Repeat("x", maxName-1)+s)
		}
	}
	return l
}

func wantNew(t *testing.T, c api.QueueConfig) {
	t.Helper()
	q := made(t, c)
	if q.Config() != c {
		t.Fatalf("Config(): %s, want %s", told(q.Config()), told(c))
	}
	wantAll(t, q)
	e, is := q.Take(1, nil)
	wantNone(t, "Take", e, is)
	e, is = q.Peek(0, nil)
	wantNone(t, "Peek", e, is)
	wantNoBack(t, q, 1, 1, true)
	wantNoRemove(t, q, 1, 0)
	wantRelease(t, q, 1)
	wantExpire(t, q, maxTime)
}

func wantNoNew(t *testing.T, c api.QueueConfig) {
	t.Helper()
	if queue.New(c) != nil {
		t.Fatalf("New(%s): not nil", told(c))
	}
}

// P17.1: Name is a queue's name; Dead is none, or one, but not Name.
func TestNames(t *testing.T) {
	for _, name := range goodNames() {
		wantNew(t, api.QueueConfig{Name: name, Most: 1})
		wantNew(t, api.QueueConfig{Name: "other", Dead: name, Most: 1})
		wantNoNew(t, api.QueueConfig{Name: name, Dead: name, Most: 1})
		wantNoNew(t, api.QueueConfig{Name: name, Dead: strings.Clone(name), Most: 1})
	}
	for _, name := range badNames() {
		wantNoNew(t, api.QueueConfig{Name: name, Most: 1})
		wantNoNew(t, api.QueueConfig{Name: name, Dead: "d", Most: 1})
		wantNoNew(t, api.QueueConfig{Name: "other", Dead: name, Most: 1})
		wantNoNew(t, api.QueueConfig{Name: name, Dead: name, Most: 1})
	}
	wantNoNew(t, api.QueueConfig{Most: 1})
	wantNoNew(t, api.QueueConfig{Dead: "d", Most: 1})
	wantNew(t, api.QueueConfig{Name: "q", Dead: "q2", Most: 1})
	wantNew(t, api.QueueConfig{Name: "q2", Dead: "q", Most: 1})
	wantNew(t, api.QueueConfig{Name: strings.Repeat("x", maxName), Dead: strings.Repeat("x", maxName-1) + "y", Most: 1})
}

// P17.1: Most is 1 to 4096, Tries 0 to MaxWord; Durable is what it is.
func TestNumbersOfAQueue(t *testing.T) {
	for _, durable := range []bool{false, true} {
		at := func(most, tries int) api.QueueConfig {
			return api.QueueConfig{Name: "q", Dead: "d", Most: most, Tries: tries, Durable: durable}
		}
		for _, most := range []int{1, 2, 3, 255, 256, 257, maxQueue - 1, maxQueue} {
			wantNew(t, at(most, 0))
		}
		for _, most := range slices.Concat(far, []int{0, -1, -2, maxQueue + 1, maxQueue + 2, maxWord + 2, 1<<32 + 1}) {
			wantNoNew(t, at(most, 0))
		}
		for _, tries := range []int{0, 1, 2, 10, 65536, maxWord - 1, maxWord} {
			wantNew(t, at(5, tries))
		}
		for _, tries := range slices.Concat(far, []int{-1, -2, maxWord + 1, maxWord + 2, -maxWord}) {
			wantNoNew(t, at(5, tries))
		}
	}
}

// P17.1: Config is the same whatever has happened.
func TestConfigStays(t *testing.T) {
	c := api.QueueConfig{Name: "a-b.c_9", Most: 7, Dead: "d", Tries: 9, Durable: true}
	q := made(t, c)
	put(t, q, entry(1, 1), entry(2, 2))
	take(t, q, 1, 5)
	for range 3 {
		if q.Config() != c {
			t.Fatalf("Config(): %s, want %s", told(q.Config()), told(c))
		}
		q.Back(1, 5, true)
		take(t, q, 1, 5)
	}
}
