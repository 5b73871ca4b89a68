package route_test

import (
	"slices"
	"strings"
	"testing"

	"longshore/route"
)

// P18.4: queues, by whatever may be one's name (which may look like something else).
func TestAddressOfQueue(t *testing.T) {
	for _, name := range slices.Concat(goodNames(), []string{"topic", "queue", "txns", "a.b.c.d.e.f.g.h.i.j", "a..b", "-._"}) {
		wantAddress(t, "queue/"+name, route.ToQueue, name)
	}
}

// P18.4: topics, by whatever is a pattern.
func TestAddressOfTopic(t *testing.T) {
	for _, p := range slices.Concat(goodWords(), goodTopics(), goodPatterns(), []string{"topic", "queue", "txns"}) {
		wantAddress(t, "topic/"+p, route.ToTopic, p)
	}
	for _, text := range slices.Concat(badWords(), badTopics(), badPatterns()) {
		wantNoAddress(t, "topic/"+text)
	}
}

// P18.4: txns, with nothing behind it.
func TestAddressOfTxns(t *testing.T) {
	wantAddress(t, "txns", route.ToTxns, "")
	for _, text := range []string{"txn", "txnss", "txns/", "txns/a", "txns.", " txns", "txns ", "Txns", "TXNS", "txns\x00", "txns\n", "/txns", "queue/txns/", "xns"} {
		wantNoAddress(t, text)
	}
}

// P18.4: texts that nearly are an address.
func TestNoAddress(t *testing.T) {
	for _, text := range []string{"", "/", "q", "a", "#", "*", "a.b", "queue", "topic", "queue/", "topic/", "queue/ ", "queue//", "queue//q", "topic//a", "queue/q/", "topic/a/", "queue/queue/q", "topic/topic/a", "/queue/q", "/topic/a", " queue/q", "queue /q", "queue/ q", "queue/q ", "queue/q\n", "topic/a\n", "Queue/q", "QUEUE/q", "queue/Q", "queue/qQ", "Topic/a", "TOPIC/a", "topic/A", "topic/a.B",
		"queu/q", "queues/q", "queueq", "queue.q", "queue:q", "queue\\q", "queue%2fq", "topics/a", "topi/a", "topica", "topic.a", "topic:a", "uqueue/q", "txns/q", "queue/" + strings.Repeat("q", maxName+1), "topic/" + strings.Repeat("w", maxWord+1), "topic/" + row("a", 9), "topic/#.#.#", "topic/a..b", "topic/.a", "topic/a.", "topic/a_b", "topic/a*", "queue/*", "queue/#", "queue/a*", "queue/\xff", "topic/\xff", "\xff", "queue/é", "queue/a,b"} {
		wantNoAddress(t, text)
	}
	for _, name := range badNames() {
		wantNoAddress(t, "queue/"+name)
	}
	for _, whole := range []string{"queue/q", "topic/a", "txns"} {
		for i := range whole[:len(whole)-1] {
			wantNoAddress(t, whole[:i])
			if i > 0 {
				wantNoAddress(t, whole[i:])
			}
			wantNoAddress(t, whole[:i]+"%"+whole[i:])
			wantNoAddress(t, whole[:i]+strings.ToUpper(whole[i:]))
		}
	}
}
