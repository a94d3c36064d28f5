package disk

import (
	"slices"

	"usher/api"
)

// own is the same bytes in memory that nobody else holds.
func own(p []byte) []byte {
	fresh := make([]byte, len(p))
	copy(fresh, p)
	return fresh
}

// put takes p over behind the other bytes, if it has room. The room is held against what is left of it, which is below 0 where Open laid down more.
func (d *Disk) put(p []byte) error {
	if len(p) > d.room-len(d.bytes) {
		return api.ErrFull
	}
	end := len(d.bytes)
	d.bytes = slices.Grow(d.bytes, len(p))[:end+len(p)]
	copy(d.bytes[end:], p)
	return nil
}

// cut keeps the first n bytes, without the room behind them: what is put there later must not be written over what was cut off.
func (d *Disk) cut(n int) {
	d.bytes = d.bytes[:n:n]
}
