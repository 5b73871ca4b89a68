package perform

import (
	"slices"

	"longshore/api"
	"longshore/terms"
	"longshore/value"
)

// Same tells whether two performatives are the same.
func Same(a, b api.Perform) bool {
	return numbers(a) == numbers(b) && texts(a) == texts(b) && truths(a) == truths(b) &&
		value.Equal(a.Props, b.Props) &&
		sameTerminus(a.Source, b.Source) && sameTerminus(a.Target, b.Target) &&
		slices.EqualFunc(a.Unsettled, b.Unsettled, sameUnsettled) &&
		terms.Same(a.State, b.State) && sameFault(a.Fault, b.Fault)
}

func numbers(p api.Perform) [22]int {
	return [...]int{
		p.Kind, p.MaxFrame, p.ChannelMax, p.Idle,
		p.Remote, p.NextIn, p.InWin, p.NextOut, p.OutWin, p.HandleMax,
		p.Handle, p.SndMode, p.RcvMode, p.InitialCount, p.MaxMessage,
		p.Count, p.Credit, p.Available,
		p.DeliveryId, p.Format, p.First, p.Last,
	}
}

func texts(p api.Perform) [4]string { return [...]string{p.Id, p.Host, p.Name, p.Tag} }

func truths(p api.Perform) [12]bool {
	return [...]bool{
		p.Receiver, p.Incomplete, p.Drain, p.Echo,
		p.HasTag, p.Settled, p.HasSettled, p.More, p.Resume, p.Aborted, p.Batchable,
		p.Closed,
	}
}

func sameTerminus(a, b api.Terminus) bool {
	return a.Kind == b.Kind && a.Address == b.Address && a.Durable == b.Durable &&
		a.Expiry == b.Expiry && a.Timeout == b.Timeout && a.Dynamic == b.Dynamic &&
		a.Mode == b.Mode && a.Filter == b.Filter && terms.Same(a.Default, b.Default) &&
		slices.Equal(a.Outcomes, b.Outcomes) && slices.Equal(a.Caps, b.Caps)
}

func sameUnsettled(a, b api.Unsettled) bool {
	return a.Tag == b.Tag && terms.Same(a.State, b.State)
}

func sameFault(a, b api.Fault) bool {
	return a.Cond == b.Cond && a.Text == b.Text && value.Equal(a.Info, b.Info)
}
