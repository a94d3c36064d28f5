package wal_test

import (
	"bytes"
	"encoding/binary"
	"hash/crc32"
	"strings"
	"testing"

	"usher/api"
	"usher/disk"
	"usher/wal"
)

// plain is the frame of a payload, put together here without the package.
func plain(payload string) []byte {
	text := binary.BigEndian.AppendUint32(nil, uint32(len(payload)))
	sum := crc32.ChecksumIEEE(append(text[:4:4], payload...))
	return append(binary.BigEndian.AppendUint32(text, sum), payload...)
}

// row is the frames of payloads, one behind the other.
func row(payloads ...string) []byte {
	var all []byte
	for _, p := range payloads {
		all = append(all, plain(p)...)
	}
	return all
}

// join puts bytes one behind the other, in memory of their own.
func join(parts ...[]byte) []byte { return bytes.Join(parts, nil) }

// goodHead is what the chapter calls so, found without the package: a sound frame stands where the bytes begin with the frame of some payload.
func goodHead(data []byte) ([]string, int) {
	var payloads []string
	at := 0
	for at+8 <= len(data) {
		n := int64(binary.BigEndian.Uint32(data[at:]))
		if n < 1 || n > 8192 || int64(at)+8+n > int64(len(data)) {
			break
		}
		payload := string(data[at+8 : at+8+int(n)])
		if !bytes.Equal(data[at:at+8+int(n)], plain(payload)) {
			break
		}
		payloads = append(payloads, payload)
		at += 8 + int(n)
	}
	return payloads, at
}

// same: are the payloads these texts?
func same(got [][]byte, want []string) bool {
	if len(got) != len(want) {
		return false
	}
	for i := range got {
		if string(got[i]) != want[i] {
			return false
		}
	}
	return true
}

// short is a text that a message can show.
func short(list []string) string {
	text := strings.Join(list, "|")
	if len(text) > 60 {
		text = text[:60] + ".."
	}
	return text
}

func texts(list [][]byte) []string {
	var out []string
	for _, p := range list {
		out = append(out, string(p))
	}
	return out
}

// mustScan fails unless Scan and Frames find just these payloads in data, and this length.
func mustScan(t *testing.T, data []byte, want []string, length int) {
	t.Helper()
	got, n := wal.Scan(data)
	if !same(got, want) || n != length {
		t.Errorf("P13.3: Scan(%.60x) = %q, %d, want %q, %d", data, short(texts(got)), n, short(want), length)
	}
	place, count := 0, 0
	for end, payload := range wal.Frames(data) {
		place += 8 + len(payload)
		if count >= len(want) || end != place || string(payload) != want[count] {
			t.Errorf("P13.2: frame %d of %.60x: %d, %.60x, want the end %d", count, data, end, payload, place)
			return
		}
		count++
	}
	if count != len(want) || place != length {
		t.Errorf("P13.2: %d frames of %.60x, up to %d, want %d, up to %d", count, data, place, len(want), length)
	}
}

// mustOpen fails unless the disk opens, tells these payloads, and holds their frames and nothing else, all of it synced.
func mustOpen(t *testing.T, d *disk.Disk, want ...string) *wal.Log {
	t.Helper()
	l, got, err := wal.Open(d)
	if err != nil || l == nil || !same(got, want) {
		t.Fatalf("P13.4: Open = %v, %q, %v, want %q", l, short(texts(got)), err, short(want))
	}
	mustHold(t, d, row(want...))
	mustCount(t, l, len(want), len(row(want...)))
	return l
}

// mustRefuse fails unless Open answers this error, and beside it nothing.
func mustRefuse(t *testing.T, d *disk.Disk, want error) {
	t.Helper()
	if l, got, err := wal.Open(d); err != want || l != nil || len(got) != 0 {
		t.Errorf("P13.4: Open = %v, %q, %v, want nil, none, %v", l, short(texts(got)), err, want)
	}
}

// mustHold fails unless these bytes lie on the disk, all of them synced.
func mustHold(t *testing.T, d *disk.Disk, want []byte) {
	t.Helper()
	mustLie(t, d, want, len(want))
}

// mustLie fails unless these bytes lie on the disk, so many of them synced.
func mustLie(t *testing.T, d *disk.Disk, want []byte, synced int) {
	t.Helper()
	if got, n := d.Look(); !bytes.Equal(got, want) || n != synced {
		t.Errorf("P13.4, P13.5: %.60x (%d bytes) and %d lie on the disk, want %.60x (%d bytes) and %d", got, len(got), n, want, len(want), synced)
	}
}

func mustCount(t *testing.T, l *wal.Log, count, size int) {
	t.Helper()
	if l.Count() != count || l.Size() != size {
		t.Errorf("P13.6: Count %d, Size %d, want %d, %d", l.Count(), l.Size(), count, size)
	}
}

func mustPut(t *testing.T, l *wal.Log, payload string, want error) {
	t.Helper()
	if err := l.Put([]byte(payload)); err != want {
		t.Errorf("P13.5: Put of %.20q (%d bytes): %v, want %v", payload, len(payload), err, want)
	}
}

// mustNeed fails unless do takes just so many operations of the disk, by an arm that is to wait for the one behind them.
func mustNeed(t *testing.T, d *disk.Disk, operations int, do func()) {
	t.Helper()
	d.Arm(operations, 1<<20)
	do()
	if d.Dead() {
		t.Errorf("P13.4, P13.5: more than %d operations of the disk", operations)
	}
	if err := d.Sync(); err != api.ErrDead {
		t.Errorf("P13.4, P13.5: less than %d operations of the disk", operations)
	}
	d.Revive()
}
