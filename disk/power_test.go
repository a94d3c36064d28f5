package disk_test

import (
	"math"
	"strings"
	"testing"

	"usher/api"
	"usher/disk"
)

// TestDeadDisk asks everything of a dead disk: nothing changes but by Revive.
func TestDeadDisk(t *testing.T) {
	d := with(t, "abc", "def", 9)
	d.Arm(2, 1)
	d.Crash(2)
	for range 3 {
		mustAppend(t, d, "x", api.ErrDead)
		mustAppend(t, d, "", api.ErrDead)
		mustAppend(t, d, strings.Repeat("x", 99), api.ErrDead)
		if err := d.Append(nil); err != api.ErrDead {
			t.Errorf("P12.2: Append(nil): %v, want ErrDead", err)
		}
		mustSync(t, d, api.ErrDead)
		mustRead(t, d, "", api.ErrDead)
		for _, n := range []int{math.MinInt, -1, 0, 1, 4, 5, 6, 7, math.MaxInt} {
			mustTruncate(t, d, n, api.ErrDead)
		}
		for _, keep := range []int{math.MinInt, -1, 0, 1, math.MaxInt} {
			d.Crash(keep)
		}
		mustBeDead(t, d, true)
		mustLie(t, d, "abcde", 5)
	}
	d.Revive()
	mustBeDead(t, d, false)
	mustLie(t, d, "abcde", 5)
	mustSync(t, d, nil)
	mustAppend(t, d, "xyz", nil)
	mustRead(t, d, "", api.ErrDead)
	mustLie(t, d, "abcdex", 6)
}

// TestDeadDiskOverItsRoom: that it is dead goes ahead of that it is full.
func TestDeadDiskOverItsRoom(t *testing.T) {
	d := disk.Open([]byte("abc"), 2)
	d.Crash(0)
	mustAppend(t, d, "", api.ErrDead)
	mustAppend(t, d, "x", api.ErrDead)
	mustTruncate(t, d, 4, api.ErrDead)
	mustTruncate(t, d, 1, api.ErrDead)
	d.Revive()
	mustAppend(t, d, "", api.ErrFull)
	mustLie(t, d, "abc", 3)
}

// TestEveryKeep lets the power fail at disks of all shapes with every keep near the tail and some far off.
func TestEveryKeep(t *testing.T) {
	text := "abcdefg"
	for count := range len(text) + 1 {
		for synced := range count + 1 {
			keeps := []int{math.MinInt, math.MinInt + 1, -1 << 31, 1 << 31, math.MaxInt - 1, math.MaxInt}
			for keep := -3; keep < 12; keep++ {
				keeps = append(keeps, keep)
			}
			for _, keep := range keeps {
				kept := synced
				for i := 0; i < keep && kept < count; i++ {
					kept++
				}
				d := with(t, text[:synced], text[synced:count], 9)
				d.Crash(keep)
				mustBeDead(t, d, true)
				mustLie(t, d, text[:kept], kept)
				d.Revive()
				mustRead(t, d, text[:kept], nil)
				d.Crash(0)
				mustLie(t, d, text[:kept], kept)

				d = with(t, text[:synced], text[synced:count], 9)
				d.Arm(0, keep)
				mustRead(t, d, "", api.ErrDead)
				mustBeDead(t, d, true)
				mustLie(t, d, text[:kept], kept)
			}
		}
	}
}

func TestReviveAtADiskThatIsAlive(t *testing.T) {
	d := disk.New(9)
	d.Revive()
	mustBeDead(t, d, false)
	mustAppend(t, d, "abc", nil)
	d.Arm(1, 0)
	d.Revive()
	mustLie(t, d, "abc", 0)
	mustRead(t, d, "abc", nil)
	d.Revive()
	mustRead(t, d, "", api.ErrDead)
	mustLie(t, d, "", 0)
	d.Revive()
	d.Revive()
	mustRead(t, d, "", nil)
}

// TestArmsStay: neither Crash nor Revive nor what a dead disk refuses touches the arms.
func TestArmsStay(t *testing.T) {
	for after := range 5 {
		d := disk.New(99)
		d.Arm(after, 1)
		d.Arm(0, 0)
		for range after {
			mustSync(t, d, nil)
			d.Crash(0)
			d.Crash(0)
			mustSync(t, d, api.ErrDead)
			mustAppend(t, d, "x", api.ErrDead)
			d.Revive()
			d.Revive()
		}
		mustAppend(t, d, "ab", api.ErrDead)
		mustLie(t, d, "a", 1)
		d.Crash(0)
		d.Revive()
		mustAppend(t, d, "cd", api.ErrDead)
		mustLie(t, d, "a", 1)
		d.Revive()
		mustAppend(t, d, "ef", nil)
		mustLie(t, d, "aef", 1)
	}
}

func TestDisksAreStrangers(t *testing.T) {
	one, other := disk.New(5), disk.New(9)
	mustAppend(t, one, "abc", nil)
	mustAppend(t, other, "de", nil)
	one.Arm(0, 1)
	mustSync(t, other, nil)
	mustSync(t, one, api.ErrDead)
	mustBeDead(t, other, false)
	mustLie(t, one, "a", 1)
	mustLie(t, other, "de", 2)
	one.Revive()
	other.Crash(0)
	mustBeDead(t, one, false)
	mustTruncate(t, one, 0, nil)
	mustLie(t, other, "de", 2)
	other.Revive()
	mustAppend(t, other, "fghijkl", nil)
	mustAppend(t, one, "fghijkl", api.ErrFull)

	data := []byte("abc")
	one, other = disk.Open(data, 9), disk.Open(data, 9)
	mustTruncate(t, one, 1, nil)
	mustAppend(t, one, "xx", nil)
	mustLie(t, one, "axx", 1)
	mustLie(t, other, "abc", 3)
}
