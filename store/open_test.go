package store_test

import (
	"bytes"
	"strings"
	"testing"

	"usher/api"
	"usher/disk"
	"usher/record"
	"usher/store"
)

// open is a disk on which these bytes lie, all of them synced, with room for more.
func open(data []byte) *disk.Disk { return disk.Open(data, room) }

// lain is a disk on which these bytes lie, so many of them synced.
func lain(data []byte, synced int) *disk.Disk {
	d := open(data[:synced])
	if err := d.Append(data[synced:]); err != nil {
		panic("a test lays down more than there is room for")
	}
	return d
}

func TestOpenOfAnEmptyDisk(t *testing.T) {
	for _, d := range []*disk.Disk{disk.New(0), disk.New(room), open(nil), disk.New(-1)} {
		mustKeep(t, mustOpen(t, d), api.State{})
		mustLie(t, d, nil)
	}
	mustKeep(t, mustOpen(t, open([]byte("no log"))), api.State{})
}

// TestOpenFinds what any number of transactions have led to, also on a disk without room for more.
func TestOpenFinds(t *testing.T) {
	txs := estate()
	for n := range len(txs) + 1 {
		for _, d := range []*disk.Disk{open(row(txs[:n]...)), disk.Open(row(txs[:n]...), 0)} {
			mustKeep(t, mustOpen(t, d), stateOf(txs[:n]...))
			mustHold(t, d, txs[:n]...)
		}
	}
}

// TestOpenOfATornLog, cut at every place: what is whole is found, the rest is cut off.
func TestOpenOfATornLog(t *testing.T) {
	txs := estate()
	data := row(txs...)
	whole := 0
	for size := range len(data) + 1 {
		if whole < len(txs) && size == len(row(txs[:whole+1]...)) {
			whole++
		}
		d := open(data[:size])
		s := mustOpen(t, d)
		if got := s.State(); !isSame(got, stateOf(txs[:whole]...)) {
			t.Fatalf("P15.1: cut behind %d bytes: %+v, want %d transactions", size, got, whole)
		}
		mustHold(t, d, txs[:whole]...)
		mustCommit(t, s, nil, session(fresh, "ann", 1))
		mustHold(t, d, append(txs[:whole:whole], tx(session(fresh, "ann", 1)))...)
	}
}

// TestOpenOfASpoiltLog: a byte that is changed ends the log there, whatever sound frames stand behind it.
func TestOpenOfASpoiltLog(t *testing.T) {
	txs := estate()
	for n := range txs {
		data := row(txs...)
		data[len(row(txs[:n]...))+20] ^= 1
		d := open(data)
		mustKeep(t, mustOpen(t, d), stateOf(txs[:n]...))
		mustHold(t, d, txs[:n]...)
	}
}

// noTransactions is payloads that no transaction is written as.
func noTransactions() [][]byte {
	good, _ := record.Pack(tx(session(fresh, "ann", 1)))
	two, _ := record.Pack(tx(session(fresh, "ann", 1), ended(fresh)))
	five := append([]byte{5}, bytes.Repeat(good[1:], 5)...)
	return [][]byte{
		[]byte("no records"), {0}, {1}, {0, 0}, good[:len(good)-1], append(bytes.Clone(good), 0), good[1:],
		append([]byte{2}, good[1:]...), append([]byte{1}, two[1:]...), five, bytes.Repeat([]byte{255}, 8192),
		[]byte(strings.Replace(string(good), "ann", "a n", 1)),
	}
}

// mustBeNoLog fails unless Open answers ErrLog, again and again, and leaves the good head as the log's own Open does.
func mustBeNoLog(t *testing.T, d *disk.Disk, head []byte) {
	t.Helper()
	for range 3 {
		mustRefuse(t, d, api.ErrLog)
		mustLie(t, d, head)
	}
	d.Crash(0)
	d.Revive()
	mustRefuse(t, d, api.ErrLog)
	mustLie(t, d, head)
}

// TestOpenOfWhatIsNoTransaction: first, last or amid others, with a torn tail or without, synced or not.
func TestOpenOfWhatIsNoTransaction(t *testing.T) {
	txs := estate()
	for _, payload := range noTransactions() {
		for n := range len(txs) + 1 {
			head := join(row(txs[:n]...), frameOf(payload), row(txs[n:]...))
			for _, tail := range [][]byte{nil, {0}, frameOf([]byte("torn"))[:9]} {
				mustBeNoLog(t, open(join(head, tail)), head)
				mustBeNoLog(t, lain(join(head, tail), 0), head)
			}
		}
	}
}

// TestOpenOfWhatDoesNotApply: a sound transaction at the wrong place.
func TestOpenOfWhatDoesNotApply(t *testing.T) {
	txs := estate()
	for _, bad := range [][]api.Record{
		tx(redeemed(fresh)), tx(withdrawn(who{"no", "one"})), tx(session(fresh, "ann", 1), session(fresh, "ann", 1)),
		tx(session(fresh, "ann", 1), ended(fresh), ended(fresh)), tx(code(fresh, anns, 1, "a"), burned(fresh)),
	} {
		for n := range len(txs) + 1 {
			head := join(row(txs[:n]...), frame(bad), row(txs[n:]...))
			mustBeNoLog(t, open(join(head, []byte("torn"))), head)
		}
	}
	for n := range txs { // each of them twice, one left out, two the other way round
		head := join(row(txs[:n+1]...), row(txs[n:]...))
		if _, err := modelOf(txs[:n+1]...).with(txs[n]); err != nil {
			mustBeNoLog(t, open(head), head)
		}
	}
	mustBeNoLog(t, open(row(txs[3])), row(txs[3]))
	mustBeNoLog(t, open(row(txs[6], txs[5])), row(txs[6], txs[5]))
}

// TestALateFrameIsNotPlayed: what stands behind the good head is cut off, it is not looked at.
func TestALateFrameIsNotPlayed(t *testing.T) {
	head := row(estate()...)
	d := open(join(head, []byte{0}, frameOf([]byte("no records"))))
	mustKeep(t, mustOpen(t, d), stateOf(estate()...))
	mustLie(t, d, head)
}

func TestOpenOfADeadDisk(t *testing.T) {
	for _, data := range [][]byte{nil, row(estate()...), frameOf([]byte("no records")), []byte("torn")} {
		d := open(data)
		d.Crash(0)
		mustRefuse(t, d, api.ErrDead)
		mustLie(t, d, data)
		if !d.Dead() {
			t.Error("P15.1: Open has revived the disk")
		}
	}
}

// TestOperationsOfOpen: those of the log's own Open, and no others.
func TestOperationsOfOpen(t *testing.T) {
	sound, bad, torn := row(estate()...), frameOf([]byte("no records")), []byte("torn")
	for _, c := range []struct {
		data       []byte
		operations int
		refusal    error
	}{{nil, 2, nil}, {sound, 2, nil}, {torn, 3, nil}, {join(sound, torn), 3, nil}, {bad, 2, api.ErrLog}, {join(bad, torn), 3, api.ErrLog}} {
		d := open(c.data)
		mustNeed(t, d, c.operations, func() {
			if _, err := store.Open(d); err != c.refusal {
				t.Errorf("P15.1: Open: %v, want %v", err, c.refusal)
			}
		})
	}
}

// TestNoDisk: the chapter does not say what a store without a disk is, but no call panics, and with an error there is no store.
func TestNoDisk(t *testing.T) {
	if s, err := store.Open(nil); s != nil || err == nil {
		t.Errorf("P15.11: Open(nil) = %v, %v", s, err)
	}
}
