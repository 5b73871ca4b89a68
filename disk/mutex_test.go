package disk

import (
	"testing"
	"time"
)

// Calls may come from several goroutines at once: while one is under way each other one waits, whichever it is.
func TestCallsWait(t *testing.T) {
	for name, call := range map[string]func(d *Disk){
		"Append": func(d *Disk) { d.Append("a", nil) },
		"Sync":   func(d *Disk) { d.Sync("a") },
		"Rename": func(d *Disk) { d.Rename("a", "b") },
		"Delete": func(d *Disk) { d.Delete("a") },
		"Read":   func(d *Disk) { d.Read("a") },
		"Files":  func(d *Disk) { d.Files() },
		"Arm":    func(d *Disk) { d.Arm(1, 1) },
		"Crash":  func(d *Disk) { d.Crash(0) },
		"Up":     func(d *Disk) { d.Up() },
		"Start":  func(d *Disk) { d.Start() },
	} {
		d := New(10)
		d.Append("a", nil)
		over := make(chan int)
		d.mutex.Lock()
		go func() {
			call(d)
			close(over)
		}()
		select {
		case <-over:
			t.Errorf("%s does not wait", name)
		case <-time.After(20 * time.Millisecond):
		}
		d.mutex.Unlock()
		<-over
	}
}

// No call leaves the disk locked, also where it is refused.
func TestCallsLetOthersGoOn(t *testing.T) {
	d := New(0)
	for _, call := range []func(){
		func() { d.Append("a", nil) }, func() { d.Append("A", nil) }, func() { d.Append("a", []byte{1}) }, func() { d.Sync("a") }, func() { d.Sync("b") },
		func() { d.Rename("a", "a") }, func() { d.Rename("b", "a") }, func() { d.Delete("a") }, func() { d.Delete("a") }, func() { d.Read("a") },
		func() { d.Files() }, func() { d.Up() }, func() { d.Start() }, func() { d.Arm(0, 0) }, func() { d.Append("a", nil) },
		func() { d.Append("a", nil) }, func() { d.Read("a") }, func() { d.Arm(0, 0) }, func() { d.Crash(0) }, func() { d.Start() }, func() { d.Crash(0) },
	} {
		call()
		if !d.mutex.TryLock() {
			t.Fatal("the disk is locked behind a call")
		}
		d.mutex.Unlock()
	}
}
