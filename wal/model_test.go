package wal_test

import (
	"bytes"
	"math/rand"
	"slices"
	"strconv"
	"testing"

	"usher/api"
	"usher/disk"
	"usher/wal"
)

// A model is a log as the chapter tells it, over a disk of its own. It and the package's log are led through the same steps: what each answers, and what each leaves on its disk behind every step, must be the same, so every operation is the same, too.
type model struct {
	disk        *disk.Disk
	dead        bool
	count, size int
}

func openModel(d *disk.Disk) (*model, []string, error) {
	all, err := d.ReadAll()
	if err != nil {
		return nil, nil, err
	}
	payloads, good := goodHead(all)
	if good != len(all) {
		if err := d.Truncate(good); err != nil {
			return nil, nil, err
		}
	}
	if err := d.Sync(); err != nil {
		return nil, nil, err
	}
	return &model{d, false, len(payloads), good}, payloads, nil
}

func (m *model) put(payload string) error {
	if payload == "" || len(payload) > 8192 {
		return api.ErrArg
	}
	if m.dead {
		return api.ErrDead
	}
	err := m.disk.Append(plain(payload))
	if err == nil {
		err = m.disk.Sync()
	}
	m.dead = err == api.ErrDead
	if err == nil {
		m.count++
		m.size += 8 + len(payload)
	}
	return err
}

// A pair leads both through the same steps. Logs that were opened before stay, so that a step may ask any of them.
type pair struct {
	t      *testing.T
	one    *disk.Disk
	two    *disk.Disk
	logs   []*wal.Log
	models []*model
	steps  []string
}

func newPair(t *testing.T, data []byte, synced, room int) *pair {
	p := &pair{t: t, one: lain(data, synced, room), two: lain(data, synced, room)}
	p.steps = []string{"a disk of " + strconv.Itoa(len(data)) + " bytes, " + strconv.Itoa(synced) + " synced, room " + strconv.Itoa(room)}
	return p
}

func (p *pair) each(step string, do func(*disk.Disk)) {
	p.steps = append(p.steps, step)
	do(p.one)
	do(p.two)
	p.hold()
}

func (p *pair) open() {
	p.steps = append(p.steps, "open")
	l, got, err := wal.Open(p.one)
	m, want, refusal := openModel(p.two)
	if err != refusal || (l == nil) != (m == nil) || !slices.Equal(texts(got), want) {
		p.t.Errorf("P13.4: %q: %q, %v, want %q, %v", p.steps, short(texts(got)), err, short(want), refusal)
		return
	}
	if l != nil {
		p.logs, p.models = append(p.logs, l), append(p.models, m)
	}
	p.hold()
}

// put asks the log that was opened back ago.
func (p *pair) put(back int, payload string) {
	p.steps = append(p.steps, "put "+strconv.Itoa(len(payload))+" by "+strconv.Itoa(back))
	i := len(p.logs) - 1 - back
	if i < 0 {
		return
	}
	err, want := p.logs[i].Put([]byte(payload)), p.models[i].put(payload)
	if err != want {
		p.t.Errorf("P13.5: %q: %v, want %v", p.steps, err, want)
	}
	p.hold()
}

func (p *pair) hold() {
	got, synced := p.one.Look()
	want, n := p.two.Look()
	if !bytes.Equal(got, want) || synced != n || p.one.Dead() != p.two.Dead() {
		p.t.Errorf("P13.4, P13.5: %q: %x and %d, dead %v, want %x and %d, dead %v", p.steps, got, synced, p.one.Dead(), want, n, p.two.Dead())
	}
	for i, l := range p.logs {
		if l.Count() != p.models[i].count || l.Size() != p.models[i].size {
			p.t.Errorf("P13.6: %q: log %d has %d and %d, want %d and %d", p.steps, i, l.Count(), l.Size(), p.models[i].count, p.models[i].size)
		}
	}
}

// step takes step number n of eleven.
func (p *pair) step(n int) {
	switch n {
	case 0:
		p.open()
	case 1:
		p.put(0, "a")
	case 2:
		p.put(0, "0123456789")
	case 3:
		p.put(1, "old")
	case 4:
		p.each("crash", func(d *disk.Disk) { d.Crash(0) })
	case 5:
		p.each("crash, 5 kept", func(d *disk.Disk) { d.Crash(5) })
	case 6:
		p.each("revive", (*disk.Disk).Revive)
	case 7:
		p.each("arm 0, 11", func(d *disk.Disk) { d.Arm(0, 11) })
	case 8:
		p.each("arm 1, 9", func(d *disk.Disk) { d.Arm(1, 9) })
	case 9:
		p.each("arm 2, 0", func(d *disk.Disk) { d.Arm(2, 0) })
	case 10:
		p.put(0, "")
	}
}

// TestAllShortRuns takes all runs of four steps behind an Open, from some disks.
func TestAllShortRuns(t *testing.T) {
	for _, c := range []struct {
		data         []byte
		synced, room int
	}{{nil, 0, 99}, {row("v", "w"), 9, 30}, {join(plain("v"), []byte("torn")), 3, 99}} {
		for n := range 11 * 11 * 11 * 11 {
			p := newPair(t, c.data, c.synced, c.room)
			p.open()
			for range 4 {
				p.step(n % 11)
				n /= 11
			}
			p.step(6)
			p.open()
			if t.Failed() {
				return
			}
		}
	}
}

// TestLongRuns are made by chance.
func TestLongRuns(t *testing.T) {
	random := rand.New(rand.NewSource(1313))
	for range 500 {
		data := row(chance(random), chance(random))
		data = data[:random.Intn(len(data)+1)]
		p := newPair(t, data, random.Intn(len(data)+1), random.Intn(2000))
		p.open()
		for range 60 {
			switch n := random.Intn(24); {
			case n < 11:
				p.step(n)
			case n < 15:
				p.each("revive", (*disk.Disk).Revive)
				p.open()
			case n == 15:
				after, keep := random.Intn(7), random.Intn(50)-3
				p.each("arm "+strconv.Itoa(after)+", "+strconv.Itoa(keep), func(d *disk.Disk) { d.Arm(after, keep) })
			default:
				p.put(random.Intn(1+random.Intn(3)), chance(random))
			}
		}
		if t.Failed() {
			return
		}
	}
}
