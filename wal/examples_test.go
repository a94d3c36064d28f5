package wal_test

import (
	"bytes"
	"testing"

	"usher/api"
	"usher/disk"
	"usher/wal"
)

// The tests here go down the chapter's table.

// frame61 is the frame of 61, as the chapter writes it.
var frame61 = []byte{0, 0, 0, 1, 0xe5, 0x8c, 0x97, 0x92, 0x61}

func TestExamplesOfFrames(t *testing.T) {
	if got, err := wal.Frame([]byte{0x61}); !bytes.Equal(got, frame61) || err != nil {
		t.Errorf("P13.1: Frame of 61 = %x, %v, want %x", got, err, frame61)
	}
	for _, payload := range [][]byte{nil, {}, make([]byte, 8193)} {
		if got, err := wal.Frame(payload); len(got) != 0 || err != api.ErrArg {
			t.Errorf("P13.1: Frame of %d bytes = %x, %v, want ErrArg", len(payload), got, err)
		}
	}
}

func TestExamplesOfScans(t *testing.T) {
	mustScan(t, nil, nil, 0)
	mustScan(t, frame61, []string{"a"}, 9)
	mustScan(t, join(frame61, frame61[:8]), []string{"a"}, 9)
	mustScan(t, join(frame61, []byte{0}, frame61), []string{"a"}, 9)
	for _, rest := range [][]byte{nil, {0}, {0, 0, 0, 0}, {0x21, 0x44, 0xdf, 0x1c}, {0x21, 0x44, 0xdf, 0x1c, 0x61}, frame61, make([]byte, 9000)} {
		mustScan(t, join(make([]byte, 4), rest), nil, 0)
	}
}

func TestExamplesOfALog(t *testing.T) {
	d := disk.Open(join(frame61, []byte{1, 2, 3}), 100)
	l := mustOpen(t, d, "a")
	mustHold(t, d, frame61)
	mustPut(t, l, "b", nil)
	mustCount(t, l, 2, 18)

	d = disk.Open(frame61, 17)
	l = mustOpen(t, d, "a")
	mustPut(t, l, "b", api.ErrFull)
	mustCount(t, l, 1, 9)
}

func TestExamplesOfDying(t *testing.T) {
	for _, c := range []struct {
		after, keep int
		told        []string
	}{{0, 8, []string{"a"}}, {0, 9, []string{"a", "b"}}, {1, 9, []string{"a", "b"}}} {
		d := disk.Open(frame61, 100)
		l := mustOpen(t, d, "a")
		d.Arm(c.after, c.keep)
		mustPut(t, l, "b", api.ErrDead)
		d.Revive()
		mustOpen(t, d, c.told...)
	}
}
