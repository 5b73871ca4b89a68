package perform

import "longshore/api"

// place is where something stands in a performative.
type place[T any] func(p *api.Perform) *T

func atId(p *api.Perform) *string                 { return &p.Id }
func atHost(p *api.Perform) *string               { return &p.Host }
func atMaxFrame(p *api.Perform) *int              { return &p.MaxFrame }
func atChannelMax(p *api.Perform) *int            { return &p.ChannelMax }
func atIdle(p *api.Perform) *int                  { return &p.Idle }
func atProps(p *api.Perform) *api.Value           { return &p.Props }
func atRemote(p *api.Perform) *int                { return &p.Remote }
func atNextIn(p *api.Perform) *int                { return &p.NextIn }
func atInWin(p *api.Perform) *int                 { return &p.InWin }
func atNextOut(p *api.Perform) *int               { return &p.NextOut }
func atOutWin(p *api.Perform) *int                { return &p.OutWin }
func atHandleMax(p *api.Perform) *int             { return &p.HandleMax }
func atName(p *api.Perform) *string               { return &p.Name }
func atHandle(p *api.Perform) *int                { return &p.Handle }
func atReceiver(p *api.Perform) *bool             { return &p.Receiver }
func atSndMode(p *api.Perform) *int               { return &p.SndMode }
func atRcvMode(p *api.Perform) *int               { return &p.RcvMode }
func atSource(p *api.Perform) *api.Terminus       { return &p.Source }
func atTarget(p *api.Perform) *api.Terminus       { return &p.Target }
func atUnsettled(p *api.Perform) *[]api.Unsettled { return &p.Unsettled }
func atIncomplete(p *api.Perform) *bool           { return &p.Incomplete }
func atInitialCount(p *api.Perform) *int          { return &p.InitialCount }
func atMaxMessage(p *api.Perform) *int            { return &p.MaxMessage }
func atCount(p *api.Perform) *int                 { return &p.Count }
func atCredit(p *api.Perform) *int                { return &p.Credit }
func atAvailable(p *api.Perform) *int             { return &p.Available }
func atDrain(p *api.Perform) *bool                { return &p.Drain }
func atEcho(p *api.Perform) *bool                 { return &p.Echo }
func atDeliveryId(p *api.Perform) *int            { return &p.DeliveryId }
func atHasTag(p *api.Perform) *bool               { return &p.HasTag }
func atTag(p *api.Perform) *string                { return &p.Tag }
func atFormat(p *api.Perform) *int                { return &p.Format }
func atSettled(p *api.Perform) *bool              { return &p.Settled }
func atHasSettled(p *api.Perform) *bool           { return &p.HasSettled }
func atMore(p *api.Perform) *bool                 { return &p.More }
func atResume(p *api.Perform) *bool               { return &p.Resume }
func atAborted(p *api.Perform) *bool              { return &p.Aborted }
func atBatchable(p *api.Perform) *bool            { return &p.Batchable }
func atState(p *api.Perform) *api.State           { return &p.State }
func atFirst(p *api.Perform) *int                 { return &p.First }
func atLast(p *api.Perform) *int                  { return &p.Last }
func atClosed(p *api.Perform) *bool               { return &p.Closed }
func atFault(p *api.Perform) *api.Fault           { return &p.Fault }
