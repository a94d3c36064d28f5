package store_test

import (
	"bytes"
	"testing"

	"usher/api"
	"usher/disk"
	"usher/store"
)

// keeps is every number of bytes that a failing of the power may keep of a frame, and some beyond.
func keeps(frame []byte) []int {
	list := []int{-1, len(frame) + 1, 1 << 40}
	for n := range len(frame) + 1 {
		list = append(list, n)
	}
	return list
}

// TestPowerFailsInACommit, in each of its operations, with each number of bytes kept: the transaction is found behind it whole, or not at all, and just the bytes that are kept decide which.
func TestPowerFailsInACommit(t *testing.T) {
	base := stateOf(estate()...)
	for _, change := range changes() {
		behind := stateOf(append(estate(), change)...)
		for operation := range 2 {
			for _, keep := range keeps(frame(change)) {
				d := open(row(estate()...))
				s := mustOpen(t, d)
				d.Arm(operation, keep)
				mustCommit(t, s, api.ErrDead, change...)
				mustBeDead(t, s, d, base)
				want := base
				if keep >= len(frame(change)) {
					want = behind
				}
				mustFind(t, d, want)
			}
		}
	}
}

// mustBeDead fails unless the store, whose disk has just died, commits nothing more, alive or not, and answers as before.
func mustBeDead(t *testing.T, s *store.Store, d *disk.Disk, want api.State) {
	t.Helper()
	lies, _ := d.Look()
	for range 2 {
		mustCommit(t, s, api.ErrDead, session(id(99), "ann", 1))
		mustCommit(t, s, api.ErrTaken, session(aSession, "ann", 1))
		mustCommit(t, s, api.ErrLost, ended(anEnded))
		mustCommit(t, s, api.ErrArg)
		if got := s.State(); !isSame(got, want) || s.Known(id(99)) {
			t.Fatalf("P15.3: a dead store keeps %+v, want %+v", got, want)
		}
		if got, synced := d.Look(); !bytes.Equal(got, lies) || synced != len(lies) {
			t.Fatalf("P15.3: a dead store has written")
		}
		d.Revive()
	}
	mustNeed(t, d, 0, func() { mustCommit(t, s, api.ErrDead, session(id(99), "ann", 1)) })
}

// mustFind fails unless Open finds that, once and again, a power failure between, and can commit behind it.
func mustFind(t *testing.T, d *disk.Disk, want api.State) {
	t.Helper()
	for _, keep := range []int{0, 1 << 40} {
		s := mustOpen(t, d)
		if got := s.State(); !isSame(got, want) {
			t.Fatalf("P15.7: %+v is found, want %+v", got, want)
		}
		lies, _ := d.Look()
		again := mustOpen(t, d)
		if got := again.State(); !isSame(got, want) {
			t.Fatalf("P15.8: %+v is found the second time, want %+v", got, want)
		}
		mustLie(t, d, lies)
		d.Crash(keep)
		d.Revive()
	}
	mustCommit(t, mustOpen(t, d), nil, session(id(98), "ann", 1))
	if !mustOpen(t, d).Known(id(98)) {
		t.Fatal("P15.7: what was committed behind a failure is not found")
	}
}

// TestPowerFailsInAnOpen, in each of its operations, with each number of bytes kept of a tail that is torn, that is sound, or that is both.
func TestPowerFailsInAnOpen(t *testing.T) {
	head := row(estate()...)
	change := changes()[4]
	whole := frame(change)
	for _, tail := range [][]byte{nil, whole[:30], whole, join(whole, []byte("torn"))} {
		for operation := range 3 {
			for _, keep := range keeps(tail) {
				d := lain(join(head, tail), len(head))
				d.Arm(operation, keep)
				s, err := store.Open(d)
				if !d.Dead() {
					if err != nil || s == nil {
						t.Fatalf("P15.1: Open = %v, %v, want a store", s, err)
					}
					continue
				}
				if s != nil || err != api.ErrDead {
					t.Fatalf("P15.1: Open = %v, %v, want nil, ErrDead", s, err)
				}
				mustRefuse(t, d, api.ErrDead)
				d.Revive()
				got, _ := d.Look()
				if bytes.HasPrefix(got, join(head, whole)) {
					mustFind(t, d, stateOf(append(estate(), change)...))
				} else {
					mustFind(t, d, stateOf(estate()...))
				}
			}
		}
	}
}

// TestPowerFailsInACommitAndThenInTheOpen: one failing behind another, as often as one likes.
func TestPowerFailsInACommitAndThenInTheOpen(t *testing.T) {
	change := changes()[5]
	size := len(frame(change))
	base, behind := stateOf(estate()...), stateOf(append(estate(), change)...)
	for operation := range 2 {
		for _, keep := range []int{-1, 0, 1, 8, 20, size - 1, size, size + 1} {
			for again := range 3 {
				for kept := -1; kept < size+2; kept += 9 {
					d := open(row(estate()...))
					s := mustOpen(t, d)
					d.Arm(operation, keep)
					d.Arm(again, kept)
					d.Arm(0, kept)
					mustCommit(t, s, api.ErrDead, change...)
					for range 3 {
						d.Revive()
						store.Open(d)
					}
					d.Revive()
					got := mustOpen(t, d).State()
					if keep >= size && !isSame(got, behind) || keep < size && !isSame(got, base) {
						t.Fatalf("P15.7: %+v is found, with %d of %d bytes kept", got, keep, size)
					}
					mustFind(t, d, got)
				}
			}
		}
	}
}

// TestPowerFailsInAnOpenOfNoLog: it is dead first, and no log behind that, and nothing else.
func TestPowerFailsInAnOpenOfNoLog(t *testing.T) {
	head := join(row(estate()...), frameOf([]byte("no records")))
	for operation := range 3 {
		d := open(join(head, []byte("torn")))
		d.Arm(operation, 0)
		mustRefuse(t, d, api.ErrDead)
		d.Revive()
		mustBeNoLog(t, d, head)
	}
}

// TestCrashBetweenCommits takes nothing, and kills no store: it has not been told.
func TestCrashBetweenCommits(t *testing.T) {
	for _, keep := range []int{-1, 0, 1, 1 << 40} {
		d := disk.New(room)
		s := mustOpen(t, d)
		var done [][]api.Record
		for _, tx := range estate() {
			mustCommit(t, s, nil, tx...)
			done = append(done, tx)
			d.Crash(keep)
			mustKeep(t, s, stateOf(done...))
			d.Revive()
			mustHold(t, d, done...)
			mustKeep(t, mustOpen(t, d), stateOf(done...))
		}
		mustKeep(t, s, stateOf(done...))
	}
}

// TestToldByADeadDisk: a store that comes to the log while the disk is dead is dead from then on.
func TestToldByADeadDisk(t *testing.T) {
	s, d := begun(t, estate()...)
	d.Crash(0)
	mustCommit(t, s, api.ErrLost, ended(fresh)) // does not come to the log
	d.Revive()
	mustCommit(t, s, nil, ended(aSession))
	d.Crash(0)
	mustCommit(t, s, api.ErrDead, revoked(aToken))
	want := stateOf(append(estate(), tx(ended(aSession)))...)
	mustBeDead(t, s, d, want)
	mustKeep(t, s, want)
	mustFind(t, d, want)
}

// TestASecondStoreBesideTheFirst finds the same, and takes nothing from it.
func TestASecondStoreBesideTheFirst(t *testing.T) {
	d := disk.New(room)
	first := mustOpen(t, d)
	var done [][]api.Record
	for _, tx := range append(estate(), changes()[4]) {
		mustCommit(t, first, nil, tx...)
		done = append(done, tx)
		mustKeep(t, mustOpen(t, d), stateOf(done...))
		mustKeep(t, first, stateOf(done...))
		mustHold(t, d, done...)
	}
}

// TestOnAnotherDisk: which disk the bytes lie on, and how much room it has, makes no difference.
func TestOnAnotherDisk(t *testing.T) {
	s, d := begun(t, append(estate(), changes()[9])...)
	data, _ := d.Look()
	for _, other := range []*disk.Disk{open(data), disk.Open(data, 0), disk.Open(data, len(data)), lain(data, 0), lain(data, 100)} {
		mustKeep(t, mustOpen(t, other), s.State())
		mustLie(t, other, data)
	}
}

// TestStoresKnowNothingOfOneAnother where they are not on one disk.
func TestStoresKnowNothingOfOneAnother(t *testing.T) {
	one, d := begun(t, estate()...)
	two, e := begun(t, tx(session(aSession, "zoe", 9)))
	mustCommit(t, one, nil, ended(aSession))
	d.Crash(0)
	mustCommit(t, one, api.ErrDead, revoked(aToken))
	mustCommit(t, two, nil, consent(anns, 1, "a"))
	mustKeep(t, two, stateOf(tx(session(aSession, "zoe", 9)), tx(consent(anns, 1, "a"))))
	mustKeep(t, one, stateOf(append(estate(), tx(ended(aSession)))...))
	mustHold(t, e, tx(session(aSession, "zoe", 9)), tx(consent(anns, 1, "a")))
}
