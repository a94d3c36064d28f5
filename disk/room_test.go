package disk_test

import (
	"math"
	"strings"
	"testing"

	"usher/api"
	"usher/disk"
)

func TestNewDisk(t *testing.T) {
	for _, room := range []int{math.MinInt, -1, 0, 1, 9, 1 << 30, math.MaxInt} {
		for _, d := range []*disk.Disk{disk.New(room), disk.Open(nil, room), disk.Open([]byte{}, room)} {
			if d == nil {
				t.Fatalf("P12.1: the disk of room %d is nil", room)
			}
			mustBeDead(t, d, false)
			mustLie(t, d, "", 0)
			for range 3 {
				mustRead(t, d, "", nil)
				mustSync(t, d, nil)
				mustTruncate(t, d, 0, nil)
			}
			mustTruncate(t, d, 1, api.ErrArg)
			mustBeDead(t, d, false)
		}
	}
}

func TestNoRoom(t *testing.T) {
	for _, room := range []int{math.MinInt, -1 << 40, -2, -1, 0} {
		d := disk.New(room)
		mustAppend(t, d, "", nil)
		mustAppend(t, d, "a", api.ErrFull)
		mustAppend(t, d, "", nil)
		mustLie(t, d, "", 0)
		d = disk.Open([]byte("a"), room)
		mustAppend(t, d, "", api.ErrFull)
		mustLie(t, d, "a", 1)
		mustTruncate(t, d, 0, nil)
		mustAppend(t, d, "", nil)
		mustAppend(t, d, "a", api.ErrFull)
	}
}

// TestRoomJustSo fills small disks in two pieces of all sizes, and then asks for a byte more.
func TestRoomJustSo(t *testing.T) {
	text := strings.Repeat("abcdefghij", 3)
	for room := range 10 {
		for first := range 12 {
			for second := range 12 {
				d := disk.New(room)
				want := ""
				for _, piece := range []string{text[:first], text[first : first+second], ""} {
					if len(want)+len(piece) > room {
						mustAppend(t, d, piece, api.ErrFull)
						mustLie(t, d, want, 0)
						continue
					}
					want += piece
					mustAppend(t, d, piece, nil)
					mustLie(t, d, want, 0)
				}
				rest := strings.Repeat("r", room-len(want))
				mustAppend(t, d, rest+"!", api.ErrFull)
				mustAppend(t, d, rest, nil)
				mustAppend(t, d, "!", api.ErrFull)
				mustAppend(t, d, "", nil)
				mustLie(t, d, want+rest, 0)
				mustRead(t, d, want+rest, nil)
			}
		}
	}
}

// TestSyncedBytesTakeRoomToo: nothing but cutting makes room.
func TestSyncedBytesTakeRoomToo(t *testing.T) {
	d := with(t, "abc", "de", 5)
	mustAppend(t, d, "f", api.ErrFull)
	mustSync(t, d, nil)
	mustAppend(t, d, "f", api.ErrFull)
	d.Crash(9)
	d.Revive()
	mustAppend(t, d, "f", api.ErrFull)
	mustTruncate(t, d, 4, nil)
	mustAppend(t, d, "fg", api.ErrFull)
	mustAppend(t, d, "f", nil)
	mustLie(t, d, "abcdf", 4)
	d.Crash(0)
	d.Revive()
	mustAppend(t, d, "g", nil)
	mustAppend(t, d, "h", api.ErrFull)
	mustLie(t, d, "abcdg", 4)
}

func TestOpen(t *testing.T) {
	text := "abcdefgh"
	for count := range len(text) + 1 {
		for room := -2; room < 12; room++ {
			d := disk.Open([]byte(text[:count]), room)
			mustLie(t, d, text[:count], count)
			mustRead(t, d, text[:count], nil)
			left := max(room, 0) - count
			if left < 0 {
				mustAppend(t, d, "", api.ErrFull)
				mustAppend(t, d, "x", api.ErrFull)
				mustLie(t, d, text[:count], count)
				mustTruncate(t, d, max(room, 0), nil)
				left = 0
			}
			mustAppend(t, d, strings.Repeat("x", left+1), api.ErrFull)
			mustAppend(t, d, strings.Repeat("x", left), nil)
			mustAppend(t, d, "", nil)
			d.Crash(0)
			kept := min(count, max(room, 0))
			mustLie(t, d, text[:kept], kept)
		}
	}
}

// TestOpenWithMoreThanTheRoom: every operation but Append goes on as elsewhere.
func TestOpenWithMoreThanTheRoom(t *testing.T) {
	d := disk.Open([]byte("abcdef"), 3)
	mustSync(t, d, nil)
	mustRead(t, d, "abcdef", nil)
	mustTruncate(t, d, 7, api.ErrArg)
	mustTruncate(t, d, 6, nil)
	mustTruncate(t, d, 4, nil)
	mustAppend(t, d, "", api.ErrFull)
	d.Crash(0)
	mustLie(t, d, "abcd", 4)
	d.Revive()
	d.Arm(0, 9)
	mustAppend(t, d, "", api.ErrDead)
	mustLie(t, d, "abcd", 4)
	d.Revive()
	d.Arm(0, 9)
	mustAppend(t, d, "x", api.ErrDead)
	mustLie(t, d, "abcd", 4)
}

// TestGreatestRoom: the room ends at MaxDisk, whatever is asked for. What is refused costs no memory, so most of it asks for one byte too many.
func TestGreatestRoom(t *testing.T) {
	huge := make([]byte, api.MaxDisk+1)
	for _, room := range []int{api.MaxDisk, api.MaxDisk + 1, 1 << 40, math.MaxInt} {
		for _, d := range []*disk.Disk{disk.New(room), disk.Open(nil, room)} {
			if err := d.Append(huge); err != api.ErrFull {
				t.Errorf("P12.1: one byte above MaxDisk at a room of %d: %v, want ErrFull", room, err)
			}
			mustLie(t, d, "", 0)
		}
	}
	if err := disk.New(api.MaxDisk - 1).Append(huge[1:]); err != api.ErrFull {
		t.Errorf("P12.1: MaxDisk bytes at a room of one less: %v, want ErrFull", err)
	}
}

// TestGreatestDisk opens a disk with more than the greatest room, and fills another one just so.
func TestGreatestDisk(t *testing.T) {
	if testing.Short() {
		t.Skip("it takes two gibibytes")
	}
	huge := make([]byte, api.MaxDisk+1)
	d := disk.Open(huge, api.MaxDisk)
	mustAppend(t, d, "", api.ErrFull)
	mustTruncate(t, d, api.MaxDisk, nil)
	mustAppend(t, d, "", nil)
	mustAppend(t, d, "a", api.ErrFull)
	mustTruncate(t, d, 1, nil)
	mustAppend(t, d, "a", nil)
	mustLie(t, d, "\x00a", 1)

	d = disk.New(api.MaxDisk + 1)
	if err := d.Append(huge[1:]); err != nil {
		t.Errorf("P12.1: MaxDisk bytes at the greatest room: %v", err)
	}
	mustAppend(t, d, "", nil)
	mustAppend(t, d, "a", api.ErrFull)
	mustTruncate(t, d, api.MaxDisk+1, api.ErrArg)
	mustTruncate(t, d, api.MaxDisk, nil)
}

// TestEveryByte: a disk takes any bytes and looks at none of them.
func TestEveryByte(t *testing.T) {
	whole := make([]byte, 0, 512)
	for n := range 256 {
		whole = append(whole, byte(n), byte(255-n))
	}
	d := disk.New(len(whole))
	for i := range whole {
		mustAppend(t, d, string(whole[i:i+1]), nil)
		if i%7 == 0 {
			mustSync(t, d, nil)
		}
	}
	mustRead(t, d, string(whole), nil)
	mustRead(t, disk.Open(whole, 0), string(whole), nil)
	mustTruncate(t, d, 300, nil)
	mustRead(t, d, string(whole[:300]), nil)
}
