package renew_test

import (
	"testing"

	"usher/api"
)

// dying plays a call that writes, with the power failing in each of its operations and each number of bytes kept: what was written is there whole behind it, or nothing of it is, and the caller is told ErrDead.
func dying(t *testing.T, ready func() *bench, c call, tx ...api.Record) {
	t.Helper()
	size := len(frame(tx))
	for operation := range 2 {
		for keep := -1; keep <= size+1; keep++ {
			b := ready()
			lies, before := look(b.disk), b.store.State()
			b.counts = false
			b.disk.Arm(operation, keep)
			b.must(failure(api.ErrDead), c)
			if !isSameState(before, b.store.State()) {
				t.Fatalf("P18.1: a call that died has changed what the store tells")
			}
			if !b.boot() {
				t.Fatal("P18.1: a second operation has died")
			}
			if keep >= size {
				b.mustHold(lies, tx)
			} else {
				b.mustHold(lies)
			}
		}
	}
}

// full plays a call that writes on disks that have less and less missing for it: it is refused, until there is just as much room as it takes.
func full(t *testing.T, ready func(room int) *bench, c call, want answer, tx ...api.Record) {
	t.Helper()
	size := len(frame(tx))
	for room := range size {
		b := ready(room)
		lies, before := look(b.disk), b.store.State()
		b.must(failure(api.ErrFull), c)
		b.mustHold(lies)
		if !isSameState(before, b.store.State()) {
			t.Fatalf("P18.1: with %d bytes of room %+v became %+v", room, before, b.store.State())
		}
	}
	b := ready(size)
	lies := look(b.disk)
	b.must(want, c)
	b.mustHold(lies, tx)
}

// The two calls that write: one renews the refresh token 3, one shows it again; what they write.
var (
	firstTime   = renewing(7, web(), showing(id(3), "scope", "read"))
	secondTime  = renewing(7, web(), showing(id(3)))
	turningTx   = []api.Record{turnedRecord(id(3)), tokenRecord(id(10), id(1), "web", 7, "read"), refreshRecord(id(11), id(1), "web", 7, all...)}
	burningTx   = []api.Record{burnedRecord(id(1))}
	firstAnswer = given(id(10), id(11), "read")
)

// readyFor is a bench with so much room left, on which the refresh token 3 has been used, or not.
func readyFor(t *testing.T, room int, isUsed bool) *bench {
	t.Helper()
	b := newBench(t, config(), 1)
	b.family(1, 2, 3, "web", 5, all...)
	if isUsed {
		b.commit(turnedRecord(id(3)))
	}
	lies := look(b.disk)
	b = benchOn(t, config(), 1, lies, len(lies)+room)
	b.push(10, 11)
	return b
}

// TestAFullDisk: the refresh token is used and what it was turned into is there, or nothing of it; so with the burning.
func TestAFullDisk(t *testing.T) {
	full(t, func(room int) *bench { return readyFor(t, room, false) }, firstTime, firstAnswer, turningTx...)
	full(t, func(room int) *bench { return readyFor(t, room, true) }, secondTime, refused("invalid_grant"), burningTx...)
}

// TestBehindAFullDisk: a renewal's draws are used up, and its refresh token lives on; what could not be burned counts on.
func TestBehindAFullDisk(t *testing.T) {
	b := readyFor(t, 100, false)
	b.must(failure(api.ErrFull), firstTime)
	if b.source.Left() != 0 {
		t.Errorf("P18.1: %d draws wait", b.source.Left())
	}
	b.mustLive(7, 3, true)
	b.mustCount(7, 2, true)
	b.must(failure(api.ErrDry), firstTime)
	b.must(refused("invalid_scope"), renewing(7, web(), showing(id(3), "scope", "x"))) // a refusal takes no room
	b = readyFor(t, 10, true)
	b.must(failure(api.ErrFull), secondTime)
	b.mustCount(7, 2, true)
	b.must(failure(api.ErrFull), secondTime)
}

// TestADiskThatDies: the refresh token is used and what it was turned into is there, or nothing of it; so with the burning.
func TestADiskThatDies(t *testing.T) {
	dying(t, func() *bench { return readyFor(t, plenty, false) }, firstTime, turningTx...)
	dying(t, func() *bench { return readyFor(t, plenty, true) }, secondTime, burningTx...)
}

// TestADeadDisk: what needs no disk is answered as ever.
func TestADeadDisk(t *testing.T) {
	b := readyFor(t, plenty, false)
	b.counts = false
	b.disk.Crash(0)
	b.must(refused("invalid_client"), renewing(7, "", nil))
	b.must(refused("invalid_grant"), renewing(1005, web(), showing(id(3))))
	b.must(failure(api.ErrDead), firstTime)
	b.must(failure(api.ErrDry), firstTime)
	b.mustLive(7, 3, true)
	b = readyFor(t, plenty, true)
	b.counts = false
	b.disk.Crash(0)
	b.must(failure(api.ErrDead), secondTime)
	b.mustCount(7, 2, true)
}

// TestTheSameRequestBehindADeath: it is answered if nothing lasted; else the refresh token is used, and what nobody saw does not count.
func TestTheSameRequestBehindADeath(t *testing.T) {
	size := len(frame(turningTx))
	for operation := range 2 {
		for _, keep := range []int{-1, 0, 1, size - 1, size, plenty} {
			b := readyFor(t, plenty, false)
			b.push(12, 13, 14, 15)
			b.counts = false
			b.disk.Arm(operation, keep)
			b.must(failure(api.ErrDead), firstTime)
			b.mustLive(7, 3, true)
			b.disk.Revive()
			b.must(failure(api.ErrDead), firstTime) // the store stays dead
			b.boot()
			if keep < size {
				b.mustLive(7, 3, true)
				b.must(given(id(14), id(15), "read"), firstTime)
				b.mustCount(7, 14, true)
				b.mustCount(7, 2, true)
			} else {
				b.mustLive(7, 3, false)
				b.mustLive(7, 11, true)
				b.mustCount(7, 10, true)
				b.must(refused("invalid_grant"), firstTime)
				b.mustLive(7, 11, false)
				b.mustCount(7, 2, false)
			}
			b.mustCount(7, 10, false)
			b.mustCount(7, 12, false)
		}
	}
}

// TestTheBurningBehindADeath: what was answered with an error may count on or not; the same request behind it ends it.
func TestTheBurningBehindADeath(t *testing.T) {
	size := len(frame(burningTx))
	for operation := range 2 {
		for _, keep := range []int{0, size - 1, size} {
			b := readyFor(t, plenty, true)
			b.counts = false
			b.disk.Arm(operation, keep)
			b.must(failure(api.ErrDead), secondTime)
			b.mustCount(7, 2, true)
			b.boot()
			b.mustCount(7, 2, keep < size)
			b.must(refused("invalid_grant"), secondTime)
			b.mustCount(7, 2, false)
		}
	}
}
