package disk_test

import (
	"math"
	"testing"

	"usher/api"
	"usher/disk"
)

// TestCuts cuts disks of all shapes at all places from one below to one above.
func TestCuts(t *testing.T) {
	text := "abcdefgh"
	for count := range len(text) + 1 {
		for synced := range count + 1 {
			for n := -1; n <= count+1; n++ {
				d := with(t, text[:synced], text[synced:count], 20)
				if n < 0 || n > count {
					mustTruncate(t, d, n, api.ErrArg)
					mustLie(t, d, text[:count], synced)
					continue
				}
				mustTruncate(t, d, n, nil)
				mustLie(t, d, text[:n], min(n, synced))
				mustRead(t, d, text[:n], nil)
				mustAppend(t, d, "xyz", nil)
				mustLie(t, d, text[:n]+"xyz", min(n, synced))
				d.Crash(0)
				mustLie(t, d, text[:min(n, synced)], min(n, synced))
			}
		}
	}
}

func TestWrongCuts(t *testing.T) {
	for _, n := range []int{math.MinInt, -1 << 40, -2, -1, 6, 7, 1 << 30, 1 << 40, math.MaxInt} {
		d := with(t, "abc", "de", 9)
		mustTruncate(t, d, n, api.ErrArg)
		mustLie(t, d, "abcde", 3)
		mustBeDead(t, d, false)
		d.Crash(1)
		mustTruncate(t, d, n, api.ErrDead)
		mustLie(t, d, "abcd", 4)
	}
}

// TestWrongCutsDoNotCount: a cut that is refused is no operation, however near the arm is.
func TestWrongCutsDoNotCount(t *testing.T) {
	for after := range 4 {
		d := with(t, "abc", "de", 9)
		d.Arm(after, 1)
		for done := range after + 1 {
			for _, n := range []int{math.MinInt, -1, 6, math.MaxInt} {
				mustTruncate(t, d, n, api.ErrArg)
			}
			mustLie(t, d, "abcde", 3)
			if done < after {
				mustRead(t, d, "abcde", nil)
			}
		}
		mustRead(t, d, "", api.ErrDead)
		mustLie(t, d, "abcd", 4)
	}
}

// TestCutsLast: no failing of the power brings back what was cut off.
func TestCutsLast(t *testing.T) {
	for _, keep := range []int{-1, 0, 1, 2, 9, math.MaxInt} {
		d := with(t, "abcdef", "gh", 9)
		mustTruncate(t, d, 2, nil)
		d.Crash(keep)
		mustLie(t, d, "ab", 2)
		d.Revive()
		mustRead(t, d, "ab", nil)
		mustAppend(t, d, "XYZ", nil)
		mustTruncate(t, d, 3, nil)
		mustLie(t, d, "abX", 2)
		mustAppend(t, d, "q", nil)
		d.Crash(keep)
		kept := 2 + min(max(keep, 0), 2)
		mustLie(t, d, "abXq"[:kept], kept)
	}
}

// TestCutsOneBehindTheOther: what is cut off does not come back by cutting at the same place as before.
func TestCutsOneBehindTheOther(t *testing.T) {
	d := disk.Open([]byte("abcdef"), 9)
	mustTruncate(t, d, 4, nil)
	mustTruncate(t, d, 5, api.ErrArg)
	mustTruncate(t, d, 6, api.ErrArg)
	mustTruncate(t, d, 4, nil)
	mustLie(t, d, "abcd", 4)
	mustTruncate(t, d, 0, nil)
	mustTruncate(t, d, 1, api.ErrArg)
	mustTruncate(t, d, 0, nil)
	mustRead(t, d, "", nil)
	mustAppend(t, d, "ghi", nil)
	mustLie(t, d, "ghi", 0)
	mustTruncate(t, d, 3, nil)
	mustLie(t, d, "ghi", 0)
	mustSync(t, d, nil)
	mustTruncate(t, d, 3, nil)
	mustLie(t, d, "ghi", 3)
}
