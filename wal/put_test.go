package wal_test

import (
	"strings"
	"testing"

	"usher/api"
	"usher/disk"
)

// wrong is payloads that no Put takes.
func wrong() []string {
	return []string{"", strings.Repeat("w", 8193), strings.Repeat("w", 20000)}
}

func TestPutsOneBehindTheOther(t *testing.T) {
	most := strings.Repeat("m", 8192)
	d := disk.New(1 << 20)
	l := mustOpen(t, d)
	var told []string
	for _, payload := range []string{"a", "a", "bb", "\x00", most, "c", most[1:], most, string(row("a"))} {
		mustPut(t, l, payload, nil)
		told = append(told, payload)
		mustHold(t, d, row(told...))
		mustCount(t, l, len(told), len(row(told...)))
	}
	l = mustOpen(t, d, told...)
	mustPut(t, l, "behind", nil)
	mustCount(t, l, len(told)+1, len(row(told...))+14)
	mustOpen(t, d, append(told, "behind")...)
}

// TestOperationsOfPut: an Append and a Sync; none for what is refused.
func TestOperationsOfPut(t *testing.T) {
	d := disk.New(99)
	l := mustOpen(t, d)
	mustNeed(t, d, 2, func() { mustPut(t, l, "a", nil) })
	l = mustOpen(t, d, "a")
	mustNeed(t, d, 4, func() {
		mustPut(t, l, "b", nil)
		mustPut(t, l, "c", nil)
	})
	mustNeed(t, d, 0, func() {
		for _, payload := range wrong() {
			mustPut(t, l, payload, api.ErrArg)
		}
		if err := l.Put(nil); err != api.ErrArg {
			t.Errorf("P13.5: Put(nil): %v, want ErrArg", err)
		}
	})
	l = mustOpen(t, d, "a", "b", "c")
	mustNeed(t, d, 1, func() { mustPut(t, l, strings.Repeat("f", 100), api.ErrFull) })
	mustHold(t, d, row("a", "b", "c"))
}

func TestWrongPuts(t *testing.T) {
	for _, payload := range wrong() {
		d := disk.New(1 << 20)
		l := mustOpen(t, d)
		mustPut(t, l, "a", nil)
		mustPut(t, l, payload, api.ErrArg)
		mustCount(t, l, 1, 9)
		mustHold(t, d, plain("a"))
		mustPut(t, l, "b", nil)
		d.Crash(0)
		mustPut(t, l, payload, api.ErrArg) // ahead of the disk
		d.Revive()
		mustPut(t, l, "c", nil) // no Put has died
		d.Crash(0)
		mustPut(t, l, "d", api.ErrDead)
		mustPut(t, l, payload, api.ErrArg) // ahead of the log's own death
		d.Revive()
		mustPut(t, l, payload, api.ErrArg)
		mustOpen(t, d, "a", "b", "c")
	}
	d := disk.New(3) // ErrArg ahead of ErrFull
	l := mustOpen(t, d)
	for _, payload := range wrong() {
		mustPut(t, l, payload, api.ErrArg)
	}
}

// TestDeadLog: behind a Put that answered ErrDead the log does nothing any more.
func TestDeadLog(t *testing.T) {
	for after := range 2 {
		for keep := -1; keep < 12; keep++ {
			d := disk.New(99)
			l := mustOpen(t, d)
			mustPut(t, l, "a", nil)
			d.Arm(after, keep)
			mustPut(t, l, "bb", api.ErrDead)
			told := join(plain("a"), plain("bb")[:min(max(keep, 0), 10)])
			mustHold(t, d, told)
			mustPut(t, l, "c", api.ErrDead)
			d.Revive()
			mustNeed(t, d, 0, func() {
				mustPut(t, l, "c", api.ErrDead)
				mustPut(t, l, "c", api.ErrDead)
			})
			mustCount(t, l, 1, 9)
			mustHold(t, d, told)
			payloads, _ := goodHead(told)
			fresh := mustOpen(t, d, payloads...)
			mustPut(t, l, "c", api.ErrDead) // another Log of the same disk changes nothing for this one
			mustPut(t, fresh, "c", nil)
			mustCount(t, l, 1, 9)
			mustOpen(t, d, append(payloads, "c")...)
		}
	}
}

// TestPowerFailsOutsideOfPuts: a log of which no Put has died goes on when the disk is alive again.
func TestPowerFailsOutsideOfPuts(t *testing.T) {
	d := disk.New(99)
	l := mustOpen(t, d)
	mustPut(t, l, "a", nil)
	d.Crash(0)
	d.Revive()
	mustPut(t, l, "b", nil)
	mustCount(t, l, 2, 18)
	mustOpen(t, d, "a", "b")
}

// TestFullDisk: behind ErrFull nothing has changed, and what is smaller goes in, down to the last byte.
func TestFullDisk(t *testing.T) {
	for room := range 60 {
		d := disk.New(room)
		l := mustOpen(t, d)
		var told []string
		left := room
		for n := 20; n > 0; n-- {
			payload := strings.Repeat(string(rune('a'+n)), n)
			if 8+n > left {
				mustPut(t, l, payload, api.ErrFull)
			} else {
				mustPut(t, l, payload, nil)
				told = append(told, payload)
				left -= 8 + n
			}
			mustHold(t, d, row(told...))
			mustCount(t, l, len(told), room-left)
		}
		mustOpen(t, d, told...)
	}
}

// TestFullDiskThatDies: an Append without room that dies puts nothing there, but the log is dead.
func TestFullDiskThatDies(t *testing.T) {
	d := disk.Open(plain("a"), 17)
	l := mustOpen(t, d, "a")
	mustPut(t, l, "b", api.ErrFull)
	mustPut(t, l, "b", api.ErrFull)
	d.Arm(0, 99)
	mustPut(t, l, "b", api.ErrDead)
	d.Revive()
	mustPut(t, l, "b", api.ErrDead)
	mustCount(t, l, 1, 9)
	mustOpen(t, d, "a")
}

// TestOpenMakesRoom: where a torn tail took it.
func TestOpenMakesRoom(t *testing.T) {
	d := disk.Open(join(plain("a"), make([]byte, 9)), 18)
	l := mustOpen(t, d, "a")
	mustPut(t, l, "b", nil)
	mustPut(t, l, "c", api.ErrFull)
	d = disk.Open(row("a", "b"), 9)
	l = mustOpen(t, d, "a", "b")
	mustPut(t, l, "c", api.ErrFull)
	mustCount(t, l, 2, 18)
}

// TestCountAsksNoDisk: what others do to the disk does not show in Count and Size, and these are no operations.
func TestCountAsksNoDisk(t *testing.T) {
	d := disk.New(99)
	l := mustOpen(t, d)
	mustPut(t, l, "a", nil)
	d.Append(plain("b"))
	mustCount(t, l, 1, 9)
	mustNeed(t, d, 0, func() {
		for range 9 {
			mustCount(t, l, 1, 9)
		}
	})
	d.Truncate(0)
	mustCount(t, l, 1, 9)
	d.Crash(0)
	mustCount(t, l, 1, 9)
	d.Revive()
	mustPut(t, l, "cc", nil)
	mustCount(t, l, 2, 19)
	mustOpen(t, d, "cc")
}
