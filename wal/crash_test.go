package wal_test

import (
	"bytes"
	"math/rand"
	"slices"
	"strings"
	"testing"

	"usher/api"
	"usher/disk"
	"usher/wal"
)

// A life is a disk with the logs on it, and beside them what P13.8 lets the next Open tell. It holds the promise alone; a model that knows each byte stands in model_test.go.
type life struct {
	t     *testing.T
	disk  *disk.Disk
	log   *wal.Log
	told  []string // by the last Open that answered no error
	since []string // of the Puts since then that answered nil
	dying []string // of the Put since then in which the disk died: none or one
}

func newLife(t *testing.T, room int) *life {
	t.Helper()
	v := &life{t: t, disk: disk.New(room)}
	v.log = mustOpen(t, v.disk)
	return v
}

func (v *life) put(payload string) {
	v.t.Helper()
	alive := !v.disk.Dead()
	switch err := v.log.Put([]byte(payload)); err {
	case nil:
		v.since = append(v.since, payload)
	case api.ErrDead:
		if alive && v.disk.Dead() {
			v.dying = append(v.dying, payload)
		}
	case api.ErrFull:
	default:
		v.t.Errorf("P13.5: Put of %d bytes: %v", len(payload), err)
	}
}

// open opens the disk, if it can, and fails if it tells anything else than it may.
func (v *life) open() bool {
	v.t.Helper()
	v.disk.Revive()
	l, payloads, err := wal.Open(v.disk)
	if err == api.ErrDead && l == nil && payloads == nil && v.disk.Dead() {
		return false
	}
	got := texts(payloads)
	sure := slices.Concat(v.told, v.since)
	perhaps := slices.Concat(sure, v.dying)
	if err != nil || len(v.dying) > 1 || !slices.Equal(got, sure) && !slices.Equal(got, perhaps) {
		v.t.Errorf("P13.8: Open tells %q, %v, may tell %q and perhaps %q", short(got), err, short(sure), short(v.dying))
	}
	mustHold(v.t, v.disk, row(got...))
	mustCount(v.t, l, len(got), len(row(got...)))
	v.log, v.told, v.since, v.dying = l, got, nil, nil
	return true
}

// openAtLast opens again and again, however often an arm kills that.
func (v *life) openAtLast() {
	v.t.Helper()
	for range 50 {
		if v.open() {
			return
		}
	}
	v.t.Error("P13.8: no Open comes to an end")
}

// TestEveryArm lets three Puts die in every operation, with any number of bytes kept; and then the next Open, or the Put behind it, by a second arm.
func TestEveryArm(t *testing.T) {
	for after := range 8 {
		for keep := -1; keep < 13; keep++ {
			for again := range 8 {
				for kept := -1; kept < 13; kept++ {
					v := newLife(t, 99)
					v.disk.Arm(after, keep)
					v.disk.Arm(again, kept)
					for _, p := range []string{"a", "bb", "ccc"} {
						v.put(p)
						v.put("more") // of a log that has died this must never be told
					}
					v.openAtLast()
					v.put("dddd")
					v.openAtLast()
					v.put("e")
					v.openAtLast()
				}
			}
		}
	}
}

// TestEveryArmTells: how many bytes are kept decides, and nothing else does, whether the Put that died is told.
func TestEveryArmTells(t *testing.T) {
	for _, payload := range []string{"b", "bb", strings.Repeat("b", 300)} {
		frame := len(payload) + 8
		for after := range 2 {
			for _, keep := range []int{-1, 0, 1, 7, 8, 9, frame - 1, frame, frame + 1, 1 << 30} {
				d := disk.New(1 << 20)
				l := mustOpen(t, d)
				mustPut(t, l, "a", nil)
				d.Arm(after, keep)
				mustPut(t, l, payload, api.ErrDead)
				d.Revive()
				if keep >= frame {
					l = mustOpen(t, d, "a", payload)
					mustPut(t, l, "c", nil)
					mustOpen(t, d, "a", payload, "c")
				} else {
					l = mustOpen(t, d, "a")
					mustPut(t, l, "c", nil)
					mustOpen(t, d, "a", "c")
				}
			}
		}
	}
}

// TestCrashBetweenPuts takes nothing.
func TestCrashBetweenPuts(t *testing.T) {
	for _, keep := range []int{-1, 0, 1, 9, 99} {
		v := newLife(t, 99)
		for _, p := range []string{"a", "bb", "ccc"} {
			v.put(p)
			v.disk.Crash(keep)
			v.disk.Crash(0)
			v.openAtLast()
		}
		mustHold(t, v.disk, row("a", "bb", "ccc"))
	}
}

// TestTornTailsDoNotGrowTogether: what one death left must not become a frame with what the next Put writes. The payload of the second Put would end the frame of the first.
func TestTornTailsDoNotGrowTogether(t *testing.T) {
	first := "x" + string(plain("inner"))
	for keep := range len(first) + 8 {
		v := newLife(t, 999)
		v.put("a")
		v.disk.Arm(0, keep)
		v.put(first)
		v.openAtLast()
		v.put(string(plain(first)[keep:]))
		v.put("z")
		v.openAtLast()
		if !slices.Equal(v.told, []string{"a", string(plain(first)[keep:]), "z"}) {
			t.Errorf("P13.8: with %d bytes kept: %q", keep, v.told)
		}
	}
}

// TestOpenTwice: a second Open tells the same and leaves the same bytes, with a power failure between the two or amid the second, whatever it keeps.
func TestOpenTwice(t *testing.T) {
	head := row("a", "bb")
	for _, torn := range append(torns(), nil) {
		data := join(head, torn)
		for _, synced := range []int{0, 4, len(head), len(data)} {
			for keep := -1; keep < len(data)+1; keep += 1 + len(data)/40 {
				d := lain(data, synced, 1<<20)
				mustOpen(t, d, "a", "bb")
				mustOpen(t, d, "a", "bb")
				d.Crash(keep)
				d.Revive()
				mustOpen(t, d, "a", "bb")
				for after := range 2 {
					d.Arm(after, keep)
					mustRefuse(t, d, api.ErrDead)
					mustHold(t, d, head)
					d.Revive()
				}
				mustOpen(t, d, "a", "bb")
			}
		}
	}
}

// TestTwoOpensSideBySide: the second Open's Log is the one to write by; it goes on where the disk is.
func TestTwoOpensSideBySide(t *testing.T) {
	d := disk.New(99)
	mustOpen(t, d)
	l := mustOpen(t, d)
	mustPut(t, l, "a", nil)
	mustOpen(t, d, "a")
	mustOpen(t, d, "a")
	mustHold(t, d, plain("a"))
}

// TestLongLives are runs made by chance, with a disk that is small or great.
func TestLongLives(t *testing.T) {
	random := rand.New(rand.NewSource(138))
	for range 400 {
		v := newLife(t, 50+random.Intn(3000))
		for range 60 {
			switch random.Intn(10) {
			case 0:
				v.disk.Crash(random.Intn(40) - 2)
			case 1, 2:
				v.disk.Arm(random.Intn(6), random.Intn(40)-2)
			case 3, 4:
				v.open()
			case 5:
				v.openAtLast()
			default:
				if v.disk.Dead() && random.Intn(2) == 0 {
					v.disk.Revive()
				}
				v.put(chance(random))
			}
		}
		v.openAtLast()
	}
}

// chance is a payload made by chance; some look like frames.
func chance(random *rand.Rand) string {
	payload := bytes.Repeat([]byte{byte(random.Intn(256))}, 1+random.Intn(30))
	switch random.Intn(4) {
	case 0:
		return string(plain(string(payload)))
	case 1:
		random.Read(payload)
	}
	return string(payload)
}
