package queue

import (
	"cmp"
	"container/heap"

	"longshore/api"
)

// order is the queue's order: the higher Priority first, of one Priority the lower Seq.
func order(a, b api.Entry) int {
	return cmp.Or(cmp.Compare(b.Priority, a.Priority), cmp.Compare(a.Seq, b.Seq))
}

// line is the free entries, as a heap: at its head stands the first one in the queue's order.
type line []*item

func (l line) Len() int { return len(l) }

func (l line) Less(i, j int) bool { return order(l[i].Entry, l[j].Entry) < 0 }

func (l line) Swap(i, j int) {
	l[i], l[j] = l[j], l[i]
	l[i].at, l[j].at = i, j
}

func (l *line) Push(x any) {
	i := x.(*item)
	i.at = len(*l)
	*l = append(*l, i)
}

func (l *line) Pop() any {
	last := len(*l) - 1
	i := (*l)[last]
	(*l)[last] = nil // else the line's spare room would keep what has left
	*l = (*l)[:last]
	return i
}

// first takes the first one that fits, in the queue's order, out of the line; nil where none does.
func (l *line) first(fits func(*item) bool) *item {
	var passed []*item
	for len(*l) > 0 {
		i := heap.Pop(l).(*item)
		if fits(i) {
			l.join(passed)
			return i
		}
		passed = append(passed, i)
	}
	l.join(passed)
	return nil
}

// join lets items stand in the line.
func (l *line) join(items []*item) {
	for _, i := range items {
		heap.Push(l, i)
	}
}
