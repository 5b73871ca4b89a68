package link

import (
	"cmp"
	"slices"

	"longshore/api"
	"longshore/terms"
)

// Resume tells what becomes of the unsettled deliveries, by what the peer has left.
func (l *Link) Resume(peer []api.Unsettled) []api.Resumed {
	what := map[string]int{}
	for _, left := range peer {
		if _, twice := what[left.Tag]; !twice {
			what[left.Tag] = l.ofThere(left)
		}
	}
	for tag, d := range l.deliveries {
		if _, there := what[tag]; !there {
			what[tag] = l.ofHereAlone(d)
		}
	}
	list := make([]api.Resumed, 0, len(what))
	for tag, w := range what {
		list = append(list, api.Resumed{Tag: tag, What: w})
	}
	slices.SortFunc(list, func(a, b api.Resumed) int { return cmp.Compare(a.Tag, b.Tag) })
	return list
}

// ofThere is what becomes of a delivery that the peer has left, whether it is here too or not.
func (l *Link) ofThere(left api.Unsettled) int {
	if l.state.Receiver {
		return api.ResWait
	}
	// What is settled here was done with; so is what has its outcome.
	if _, here := l.deliveries[left.Tag]; !here || terms.Outcome(left.State) {
		return api.ResSettle
	}
	return api.ResSend
}

// ofHereAlone is what becomes of a delivery that the peer knows nothing of.
func (l *Link) ofHereAlone(d delivery) int {
	// A sender whose peer said what became of it knows that the delivery had come; else it was lost on its way.
	if l.state.Receiver || terms.Outcome(d.peer) {
		return api.ResForget
	}
	return api.ResSend
}
