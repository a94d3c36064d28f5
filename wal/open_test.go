package wal_test

import (
	"math"
	"strings"
	"testing"

	"usher/api"
	"usher/disk"
	"usher/wal"
)

// lain is a disk on which these bytes lie, the first of them synced.
func lain(data []byte, synced, room int) *disk.Disk {
	d := disk.Open(data[:synced], room)
	d.Append(data[synced:])
	return d
}

// torns is what may stand behind a good head.
func torns() [][]byte {
	spoilt := plain("spoilt")
	spoilt[13] ^= 1
	return [][]byte{{0}, {1, 2, 3}, plain("a")[:8], plain("abc")[:10], spoilt, append(spoilt, plain("sound")...), make([]byte, 100), append(headed(0, nil), plain("x")...), headed(8193, make([]byte, 8193))}
}

func TestOpenOfGoodHeads(t *testing.T) {
	most := strings.Repeat("m", 8192)
	for _, payloads := range [][]string{nil, {"a"}, {"a", "bb", "ccc"}, {most}, {most, "a", most}} {
		data := row(payloads...)
		mustOpen(t, disk.Open(data, 1<<20), payloads...)
		mustOpen(t, disk.Open(data, 0), payloads...)
		mustOpen(t, lain(data, 0, 1<<20), payloads...)
		mustOpen(t, lain(data, len(data)/2, 1<<20), payloads...)
		for _, torn := range torns() {
			mustOpen(t, disk.Open(join(data, torn), 1<<20), payloads...)
			mustOpen(t, disk.Open(join(data, torn), 0), payloads...)
			mustOpen(t, lain(join(data, torn), len(data), 1<<20), payloads...)
			mustOpen(t, lain(join(data, torn), len(data)+1, 1<<20), payloads...)
			mustOpen(t, lain(join(data, torn), 0, 1<<20), payloads...)
		}
	}
	mustOpen(t, disk.New(0))
	mustOpen(t, disk.New(-5))
}

// TestOperationsOfOpen: with nothing torn ReadAll and Sync, with a torn tail Truncate between them; nothing more.
func TestOperationsOfOpen(t *testing.T) {
	for _, payloads := range [][]string{nil, {"a"}, {"a", "bb"}} {
		data := row(payloads...)
		for _, d := range []*disk.Disk{disk.Open(data, 99), lain(data, 0, 99)} {
			mustNeed(t, d, 2, func() { mustOpen(t, d, payloads...) })
			mustHold(t, d, data)
		}
		for _, torn := range torns() {
			for _, d := range []*disk.Disk{disk.Open(join(data, torn), 1<<20), lain(join(data, torn), 0, 1<<20)} {
				mustNeed(t, d, 3, func() { mustOpen(t, d, payloads...) })
				mustHold(t, d, data)
			}
		}
	}
}

// TestOpenDies at each of its operations, with any number of bytes kept: what lies there then tells which operations were done ahead of it, and in what order.
func TestOpenDies(t *testing.T) {
	data, torn := row("a", "bb"), []byte{1, 2, 3, 4}
	all := join(data, torn)
	for synced := range len(all) + 1 {
		for keep := -1; keep <= len(all)+1; keep++ {
			kept := func(n int) []byte { return all[:min(n, max(min(synced, n), min(synced, n)+max(keep, 0)))] }
			for after, n := range []int{len(all), len(all), len(data)} {
				d := lain(all, synced, 99)
				d.Arm(after, keep)
				mustRefuse(t, d, api.ErrDead)
				if !d.Dead() {
					t.Errorf("P13.4: an arm of %d operations is not used up", after)
				}
				mustHold(t, d, kept(n))
			}
			d := lain(all, synced, 99)
			d.Arm(3, keep)
			mustOpen(t, d, "a", "bb")
		}
	}
}

// TestOpenDiesWithNothingTorn has no Truncate: the second operation is the Sync.
func TestOpenDiesWithNothingTorn(t *testing.T) {
	data := row("a", "bb")
	for synced := range len(data) + 1 {
		for keep := -1; keep <= len(data)+1; keep++ {
			for after := range 2 {
				d := lain(data, synced, 99)
				d.Arm(after, keep)
				mustRefuse(t, d, api.ErrDead)
				mustHold(t, d, data[:min(len(data), synced+max(keep, 0))])
			}
			d := lain(data, synced, 99)
			d.Arm(2, keep)
			mustOpen(t, d, "a", "bb")
		}
	}
}

// TestOpenDoesNoMoreBehindAnError: the next arm does not count, and the disk is not revived.
func TestOpenDoesNoMoreBehindAnError(t *testing.T) {
	for after := range 3 {
		d := disk.Open(join(plain("a"), []byte{9}), 99)
		d.Arm(after, 0)
		d.Arm(3, 0)
		mustRefuse(t, d, api.ErrDead)
		mustRefuse(t, d, api.ErrDead)
		d.Revive()
		for range 3 {
			if err := d.Sync(); err != nil {
				t.Errorf("P13.4: behind an Open that died at operation %d the next arm has counted: %v", after, err)
			}
		}
		if err := d.Sync(); err != api.ErrDead {
			t.Errorf("P13.4: behind an Open that died at operation %d: %v, want ErrDead", after, err)
		}
	}
}

func TestOpenOfADeadDisk(t *testing.T) {
	for _, keep := range []int{math.MinInt, 0, 5, math.MaxInt} {
		d := lain(row("a", "b"), 9, 99)
		d.Crash(keep)
		before, synced := d.Look()
		d.Arm(0, 0)
		mustRefuse(t, d, api.ErrDead)
		mustLie(t, d, before, synced)
		d.Revive()
		mustRefuse(t, d, api.ErrDead)
		d.Revive()
		payloads, _ := goodHead(before)
		mustOpen(t, d, payloads...)
	}
}

// TestToldLasts: whatever the power takes behind an Open, it does not take what was told.
func TestToldLasts(t *testing.T) {
	data := join(row("a", "bb", "ccc"), []byte("torn"))
	for synced := range len(data) + 1 {
		for _, keep := range []int{-1, 0, 3, 99} {
			d := lain(data, synced, 99)
			mustOpen(t, d, "a", "bb", "ccc")
			d.Crash(keep)
			d.Revive()
			mustOpen(t, d, "a", "bb", "ccc")
		}
	}
}

// TestTwoLogsOfTwoDisks have nothing to do with one another.
func TestTwoLogsOfTwoDisks(t *testing.T) {
	d, e := disk.New(99), disk.New(99)
	one, two := mustOpen(t, d), mustOpen(t, e)
	mustPut(t, one, "a", nil)
	e.Crash(0)
	mustPut(t, two, "b", api.ErrDead)
	mustPut(t, one, "cc", nil)
	mustCount(t, one, 2, 19)
	mustCount(t, two, 0, 0)
	mustHold(t, d, row("a", "cc"))
	mustHold(t, e, nil)
}

// TestNoWrappedErrors: the error of the disk comes as the value that it is.
func TestNoWrappedErrors(t *testing.T) {
	d := disk.New(8)
	l := mustOpen(t, d)
	if err := l.Put([]byte("a")); err != api.ErrFull {
		t.Errorf("P13.5: %v, want ErrFull itself", err)
	}
	d.Crash(0)
	if _, _, err := wal.Open(d); err != api.ErrDead {
		t.Errorf("P13.4: %v, want ErrDead itself", err)
	}
	if err := l.Put([]byte("a")); err != api.ErrDead {
		t.Errorf("P13.5: %v, want ErrDead itself", err)
	}
}
