package disk_test

import (
	"math"
	"strconv"
	"testing"

	"usher/api"
	"usher/disk"
)

// TestEveryOperationCounts brings an arm near by each kind of operation, and lets each kind die by it.
func TestEveryOperationCounts(t *testing.T) {
	for _, counted := range operations() {
		for _, dying := range operations() {
			for after := range 4 {
				d := with(t, "abc", "def", 99)
				d.Arm(after, 99)
				for i := range after {
					if err := counted.run(d); err != nil {
						t.Errorf("P12.4: %s, as operation %d of %d: %v, want nil", counted.name, i, after, err)
					}
				}
				if err := dying.run(d); err != api.ErrDead || !d.Dead() {
					t.Errorf("P12.4: %s behind %d of %s: %v, want ErrDead", dying.name, after, counted.name, err)
				}
				d.Revive()
				if err := dying.run(d); err != nil {
					t.Errorf("P12.4: %s once more: %v, want nil", dying.name, err)
				}
			}
		}
	}
}

// TestNothingIsDoneByTheDying: but an Append's bytes, of which keep tells how many last.
func TestNothingIsDoneByTheDying(t *testing.T) {
	for _, o := range operations() {
		whole := "abcdef"
		if o.name == "Append(x)" {
			whole = "abcdefx"
		}
		for keep := -1; keep < 6; keep++ {
			d := with(t, "abc", "def", 99)
			d.Arm(0, keep)
			if err := o.run(d); err != api.ErrDead {
				t.Errorf("P12.4: %s: %v, want ErrDead", o.name, err)
			}
			kept := min(3+max(keep, 0), len(whole))
			mustLie(t, d, whole[:kept], kept)
			mustBeDead(t, d, true)
		}
	}
}

// TestDyingSyncSyncsNothing: what it was to make last is tail when the power fails.
func TestDyingSyncSyncsNothing(t *testing.T) {
	d := with(t, "ab", "cd", 9)
	d.Arm(0, 0)
	mustSync(t, d, api.ErrDead)
	mustLie(t, d, "ab", 2)
}

// TestDyingAppend: its bytes come behind the tail, but all of them or none, by the room.
func TestDyingAppend(t *testing.T) {
	for room := 5; room < 10; room++ {
		for count := range 6 {
			for keep := -1; keep < 9; keep++ {
				p := "vwxyz"[:count]
				tail := "de"
				if 5+count <= room {
					tail += p
				}
				d := with(t, "abc", "de", room)
				d.Arm(0, keep)
				mustAppend(t, d, p, api.ErrDead)
				kept := tail[:min(max(keep, 0), len(tail))]
				mustLie(t, d, "abc"+kept, 3+len(kept))
				d.Revive()
				mustRead(t, d, "abc"+kept, nil)
			}
		}
	}
}

// TestFullAppendCounts: an Append without room is an operation, whether it dies or not.
func TestFullAppendCounts(t *testing.T) {
	for after := range 4 {
		d := with(t, "abc", "d", 5)
		d.Arm(after, 1)
		for range after {
			mustAppend(t, d, "xy", api.ErrFull)
			mustLie(t, d, "abcd", 3)
		}
		mustAppend(t, d, "xy", api.ErrDead)
		mustLie(t, d, "abcd", 4)
		d.Revive()
		mustAppend(t, d, "xy", api.ErrFull)
	}
}

func TestAfterBelowZero(t *testing.T) {
	for _, after := range []int{math.MinInt, -1 << 40, -2, -1, 0} {
		d := disk.New(9)
		d.Arm(after, 0)
		mustDieNext(t, d, "after "+strconv.Itoa(after))
		d.Arm(1, 0)
		d.Arm(after, 0)
		mustSync(t, d, nil)
		mustSync(t, d, api.ErrDead)
		d.Revive()
		mustDieNext(t, d, "behind another one, after "+strconv.Itoa(after))
	}
	d := disk.New(9)
	d.Arm(1, 0)
	mustSync(t, d, nil)
	mustDieNext(t, d, "after 1")
}

func TestArmFarOff(t *testing.T) {
	d := disk.New(9)
	d.Arm(math.MaxInt, 0)
	d.Arm(0, 0)
	for range 1000 {
		mustSync(t, d, nil)
	}
	mustBeDead(t, d, false)
	d = disk.New(9)
	d.Arm(1000, 0)
	for range 1000 {
		mustSync(t, d, nil)
	}
	mustDieNext(t, d, "after 1000")
}

// TestArmsWaitInALine lays down lines of arms and asks at which operations the disk dies: only the first counts down, each has its own keep.
func TestArmsWaitInALine(t *testing.T) {
	for _, afters := range [][]int{{0}, {0, 0}, {1, 0}, {0, 1}, {2, 1, 0}, {0, 1, 2}, {3, 3}, {-4, 2, -4, 0, 1}, {5, 0, 0, 5}} {
		for early := range len(afters) + 1 {
			d := disk.New(1 << 20)
			for i, after := range afters[:early] {
				d.Arm(after, i)
			}
			d.Crash(0)
			for i, after := range afters[early:] {
				d.Arm(after, early+i)
			}
			d.Revive()
			want := ""
			for i, after := range afters {
				for range after {
					mustRead(t, d, want, nil)
				}
				mustAppend(t, d, "abcdefgh", api.ErrDead)
				want += "abcdefgh"[:i]
				mustLie(t, d, want, len(want))
				d.Revive()
			}
			for range 9 {
				mustRead(t, d, want, nil)
			}
		}
	}
}

// TestArmLaidDownLate: one that comes when another waits, or has been used up, counts from its turn on.
func TestArmLaidDownLate(t *testing.T) {
	d := disk.New(99)
	d.Arm(2, 0)
	mustSync(t, d, nil)
	d.Arm(1, 1)
	mustSync(t, d, nil)
	mustSync(t, d, api.ErrDead)
	d.Arm(0, 2)
	d.Revive()
	mustSync(t, d, nil)
	mustAppend(t, d, "abc", api.ErrDead)
	mustLie(t, d, "a", 1)
	d.Revive()
	mustAppend(t, d, "bcd", api.ErrDead)
	mustLie(t, d, "abc", 3)
	d.Revive()
	mustSync(t, d, nil)
	d.Arm(0, 3)
	mustAppend(t, d, "defg", api.ErrDead)
	mustLie(t, d, "abcdef", 6)
}

// TestManyArms: there is no bound on how many wait. One in a thousand keeps a byte, so that the order of the arms is seen and the disk stays small.
func TestManyArms(t *testing.T) {
	const count = 200000
	d := disk.New(count)
	for i := range count {
		d.Arm(i%3, 1-min(i%1000, 1))
	}
	for i := range count {
		for range i % 3 {
			if err := d.Sync(); err != nil {
				t.Fatalf("P12.9: ahead of death %d: %v", i, err)
			}
		}
		if err := d.Append([]byte("a")); err != api.ErrDead {
			t.Fatalf("P12.9: death %d: %v, want ErrDead", i, err)
		}
		if all, synced := d.Look(); len(all) != i/1000+1 || synced != len(all) {
			t.Fatalf("P12.9: behind death %d %d bytes lie there, %d synced, want %d", i, len(all), synced, i/1000+1)
		}
		d.Revive()
	}
	mustSync(t, d, nil)
}
