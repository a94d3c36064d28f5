package disk_test

import (
	"testing"

	"usher/api"
	"usher/disk"
)

// The tests here go down the chapter's table.

func TestExampleOfATail(t *testing.T) {
	d := disk.New(10)
	mustAppend(t, d, "abc", nil)
	mustSync(t, d, nil)
	mustAppend(t, d, "defg", nil)
	mustLie(t, d, "abcdefg", 3)
	d.Crash(2)
	mustLie(t, d, "abcde", 5)
	mustRead(t, d, "", api.ErrDead)
	d.Revive()
	mustLie(t, d, "abcde", 5)
}

func TestExamplesOfRoom(t *testing.T) {
	d := disk.New(3)
	mustAppend(t, d, "abcd", api.ErrFull)
	mustAppend(t, d, "abc", nil)
	mustAppend(t, d, "", nil)
	mustAppend(t, d, "d", api.ErrFull)

	d = disk.Open([]byte("abc"), 2)
	mustAppend(t, d, "", api.ErrFull)
	mustTruncate(t, d, 2, nil)
	mustAppend(t, d, "", nil)
}

func TestExamplesOfDying(t *testing.T) {
	d := disk.New(9)
	d.Arm(1, 1)
	mustAppend(t, d, "ab", nil)
	mustAppend(t, d, "cd", api.ErrDead)
	mustBeDead(t, d, true)
	mustLie(t, d, "a", 1)

	d = disk.New(9)
	mustAppend(t, d, "ab", nil)
	d.Arm(0, 9)
	mustSync(t, d, api.ErrDead)
	mustLie(t, d, "ab", 2)

	d = disk.New(9)
	mustAppend(t, d, "ab", nil)
	mustSync(t, d, nil)
	d.Arm(0, 0)
	mustTruncate(t, d, 3, api.ErrArg)
	mustTruncate(t, d, 1, api.ErrDead)
	mustLie(t, d, "ab", 2)

	d = disk.New(2)
	d.Arm(0, 9)
	mustAppend(t, d, "abc", api.ErrDead)
	mustLie(t, d, "", 0)
}

func TestExampleOfCutting(t *testing.T) {
	d := disk.New(9)
	mustAppend(t, d, "abc", nil)
	mustSync(t, d, nil)
	mustTruncate(t, d, 1, nil)
	mustAppend(t, d, "x", nil)
	d.Crash(0)
	mustLie(t, d, "a", 1)
}

func TestExampleOfTwoArms(t *testing.T) {
	d := disk.New(9)
	d.Arm(0, 0)
	d.Arm(1, 9)
	mustAppend(t, d, "a", api.ErrDead)
	d.Revive()
	mustAppend(t, d, "b", nil)
	mustAppend(t, d, "c", api.ErrDead)
	mustLie(t, d, "bc", 2)
}
