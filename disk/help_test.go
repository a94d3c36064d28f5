package disk_test

import (
	"testing"

	"usher/api"
	"usher/disk"
)

// mustLie fails unless these bytes lie on the disk, so many of them synced.
func mustLie(t *testing.T, d *disk.Disk, want string, synced int) {
	t.Helper()
	if got, n := d.Look(); string(got) != want || n != synced {
		t.Errorf("P12.12: %q and %d lie on the disk, want %q and %d", got, n, want, synced)
	}
}

func mustAppend(t *testing.T, d *disk.Disk, p string, want error) {
	t.Helper()
	if err := d.Append([]byte(p)); err != want {
		t.Errorf("P12.5: Append(%q): %v, want %v", p, err, want)
	}
}

func mustSync(t *testing.T, d *disk.Disk, want error) {
	t.Helper()
	if err := d.Sync(); err != want {
		t.Errorf("P12.6: Sync: %v, want %v", err, want)
	}
}

// mustRead fails unless the answer is this; with a refusal no bytes may come.
func mustRead(t *testing.T, d *disk.Disk, want string, refusal error) {
	t.Helper()
	if got, err := d.ReadAll(); string(got) != want || err != refusal {
		t.Errorf("P12.7: ReadAll = %q, %v, want %q, %v", got, err, want, refusal)
	}
}

func mustTruncate(t *testing.T, d *disk.Disk, n int, want error) {
	t.Helper()
	if err := d.Truncate(n); err != want {
		t.Errorf("P12.8: Truncate(%d): %v, want %v", n, err, want)
	}
}

func mustBeDead(t *testing.T, d *disk.Disk, want bool) {
	t.Helper()
	if d.Dead() != want {
		t.Errorf("P12.11: Dead is %v, want %v", d.Dead(), want)
	}
}

// with is a disk of that room on which synced is synced and tail is not.
func with(t *testing.T, synced, tail string, room int) *disk.Disk {
	t.Helper()
	d := disk.New(room)
	mustAppend(t, d, synced, nil)
	mustSync(t, d, nil)
	mustAppend(t, d, tail, nil)
	mustLie(t, d, synced+tail, len(synced))
	return d
}

// An operation as the tests name it; each of them can die and counts.
type operation struct {
	name string
	run  func(*disk.Disk) error
}

func appendOf(p string) operation {
	return operation{"Append(" + p + ")", func(d *disk.Disk) error { return d.Append([]byte(p)) }}
}

func readAll(d *disk.Disk) error {
	_, err := d.ReadAll()
	return err
}

// operations is one of each kind, none of which is refused at a disk that is alive and has room for a byte.
func operations() []operation {
	return []operation{
		appendOf("x"),
		appendOf(""),
		{"Append(nil)", func(d *disk.Disk) error { return d.Append(nil) }},
		{"Sync", (*disk.Disk).Sync},
		{"ReadAll", readAll},
		{"Truncate(0)", func(d *disk.Disk) error { return d.Truncate(0) }},
		{"Truncate(all)", func(d *disk.Disk) error {
			all, _ := d.Look()
			return d.Truncate(len(all))
		}},
	}
}

// mustDieNext fails unless an arm kills the next operation and no other waits behind it for the one after that.
func mustDieNext(t *testing.T, d *disk.Disk, where string) {
	t.Helper()
	if err := d.Sync(); err != api.ErrDead || !d.Dead() {
		t.Errorf("P12.4: %s: the next operation answers %v, want ErrDead", where, err)
	}
	d.Revive()
	if err := d.Sync(); err != nil {
		t.Errorf("P12.4: %s: the one behind it answers %v, want nil", where, err)
	}
}
