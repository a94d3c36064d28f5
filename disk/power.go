package disk

import "usher/api"

// arm is a failing of the power that waits.
type arm struct {
	after int // operations that are done ahead of the one that dies
	keep  int
}

// gate is what every operation begins with. It answers nil if the operation goes on; dying is what the operation still does if it dies here.
func (d *Disk) gate(dying func()) error {
	if d.dead {
		return api.ErrDead
	}
	if len(d.arms) == 0 {
		return nil
	}
	if d.arms[0].after > 0 {
		d.arms[0].after--
		return nil
	}
	keep := d.arms[0].keep
	d.arms = d.arms[1:]
	dying()
	d.fail(keep)
	return api.ErrDead
}

// nothing is what a dying operation still does, an Append aside.
func nothing() {}

// fail: the power fails. What is left behind it lasts.
func (d *Disk) fail(keep int) {
	tail := len(d.bytes) - d.synced
	d.cut(d.synced + min(max(keep, 0), tail))
	d.synced = len(d.bytes)
	d.dead = true
}
