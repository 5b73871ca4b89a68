package session

import "longshore/api"

// Handle gives out the least free handle.
func (s *Session) Handle() (int, api.Errno) {
	if !s.state.Peer {
		return 0, api.ErrState
	}
	// As it is always the least, those in use all lie below MaxLinks.
	for handle := 0; handle < api.MaxLinks && handle <= s.state.RemoteHandle; handle++ {
		if !s.handles.has(handle) {
			s.handles[handle] = none
			return handle, api.OK
		}
	}
	return 0, api.ErrHandle
}

// Free takes a handle back, with all that belongs to it.
func (s *Session) Free(handle int) api.Errno {
	remote, inUse := s.handles[handle]
	if !inUse {
		return api.ErrHandle
	}
	delete(s.handles, handle)
	delete(s.remotes, remote) // where it is none, nothing stands there
	belongs := func(p api.Pending) bool { return p.Handle == handle }
	s.sending.drop(belongs)
	s.receiving.drop(belongs)
	return api.OK
}

// Remote says that a handle of the peer's is one of ours.
func (s *Session) Remote(remote, handle int) api.Errno {
	if remote < 0 || remote > s.state.HandleMax || s.remotes.has(remote) {
		return api.ErrHandle
	}
	if other, inUse := s.handles[handle]; !inUse || other != none {
		return api.ErrHandle
	}
	s.handles[handle], s.remotes[remote] = remote, handle
	return api.OK
}

// Local tells which handle of ours one of the peer's stands for.
func (s *Session) Local(remote int) (int, bool) {
	handle, is := s.remotes[remote]
	return handle, is
}
