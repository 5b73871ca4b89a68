package session

// SetNextDelivery says which number the next delivery has: to come to where numbers go round would take 2^32 calls.
func (s *Session) SetNextDelivery(n int) { s.state.NextDelivery = n }
