package disk

import "longshore/api"

// never is what is left of acts where the power does not fail.
const never = -1

// power is whether a disk is up, and when it falls.
type power struct {
	down bool
	left int // how many acts are still done ahead of the one in which the power fails; or never
	keep int // how many bytes of each tail stay then
}

// act counts an act. In the one in which the power fails the disk falls, and that is what the act answers.
func (d *Disk) act() api.Errno {
	switch {
	case d.left == never:
		return api.OK
	case d.left == 0:
		d.fall(d.keep)
		return api.ErrDown
	}
	d.left--
	return api.OK
}

func (d *Disk) fall(keep int) {
	d.down, d.left = true, never
	d.used = 0
	for _, f := range d.files {
		f.fall(keep)
		d.used += len(f.data)
	}
}

// Arm says behind how many acts the power fails (below 0: never), and how much of each unsafe tail stays; Crash: now.
func (d *Disk) Arm(acts, keep int) {
	d.mutex.Lock()
	defer d.mutex.Unlock()
	if d.down {
		return
	}
	d.left, d.keep = max(acts, never), keep
}

func (d *Disk) Crash(keep int) {
	d.mutex.Lock()
	defer d.mutex.Unlock()
	if !d.down {
		d.fall(keep)
	}
}

// Up tells whether it is up; Start puts it up again.
func (d *Disk) Up() bool {
	d.mutex.Lock()
	defer d.mutex.Unlock()
	return !d.down
}

func (d *Disk) Start() {
	d.mutex.Lock()
	defer d.mutex.Unlock()
	d.down = false
}
