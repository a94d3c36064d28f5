package disk_test

import (
	"math"
	"math/rand"
	"strconv"
	"strings"
	"testing"

	"usher/api"
	"usher/disk"
)

// A step is one call, by its name, with what it is handed.
type step struct {
	call string
	p    string
	a, b int
}

func (s step) String() string {
	return s.call + "(" + strconv.Quote(s.p) + ", " + strconv.Itoa(s.a) + ", " + strconv.Itoa(s.b) + ")"
}

// An answer is all that a call tells.
type answer struct {
	bytes string
	dead  bool
	err   error
}

func play(d *disk.Disk, s step) answer {
	switch s.call {
	case "Append":
		return answer{err: d.Append([]byte(s.p))}
	case "Sync":
		return answer{err: d.Sync()}
	case "ReadAll":
		all, err := d.ReadAll()
		return answer{bytes: string(all), err: err}
	case "Truncate":
		return answer{err: d.Truncate(s.a)}
	case "Arm":
		d.Arm(s.a, s.b)
	case "Crash":
		d.Crash(s.a)
	case "Revive":
		d.Revive()
	}
	return answer{dead: d.Dead()}
}

// A model is the chapter's words, over two texts and a list of the arms' countdowns, each of which is a text of as many strokes as operations are left.
type model struct {
	synced, tail string
	room         int
	strokes      []string
	keeps        []int
	dead         bool
}

func (m *model) play(s step) answer {
	whole := m.synced + m.tail
	switch s.call {
	case "Arm":
		m.strokes = append(m.strokes, strings.Repeat("|", max(s.a, 0)))
		m.keeps = append(m.keeps, s.b)
		return answer{dead: m.dead}
	case "Crash":
		if !m.dead {
			m.fail(s.a)
		}
		return answer{dead: m.dead}
	case "Revive":
		m.dead = false
		return answer{}
	}
	if m.dead {
		return answer{err: api.ErrDead}
	}
	if s.call == "Truncate" && (s.a < 0 || s.a > len(whole)) {
		return answer{err: api.ErrArg}
	}
	fits := s.call == "Append" && len(whole+s.p) <= m.room
	if len(m.strokes) > 0 && m.strokes[0] == "" {
		if fits {
			m.tail += s.p
		}
		keep := m.keeps[0]
		m.strokes, m.keeps = m.strokes[1:], m.keeps[1:]
		m.fail(keep)
		return answer{err: api.ErrDead}
	}
	if len(m.strokes) > 0 {
		m.strokes[0] = m.strokes[0][1:]
	}
	switch {
	case fits:
		m.tail += s.p
	case s.call == "Append":
		return answer{err: api.ErrFull}
	case s.call == "Sync":
		m.synced, m.tail = whole, ""
	case s.call == "ReadAll":
		return answer{bytes: whole}
	case s.a < len(m.synced):
		m.synced, m.tail = whole[:s.a], ""
	default:
		m.tail = whole[len(m.synced):s.a]
	}
	return answer{}
}

func (m *model) fail(keep int) {
	for i := 0; i < keep && m.tail != ""; i++ {
		m.synced, m.tail = m.synced+m.tail[:1], m.tail[1:]
	}
	m.tail = ""
	m.dead = true
}

// A start is a disk that is opened, its model, and steps that go ahead.
type start struct {
	data  string
	room  int
	ahead []step
}

func (s start) begin() (*disk.Disk, *model) {
	d, m := disk.Open([]byte(s.data), s.room), &model{synced: s.data, room: min(max(s.room, 0), 1<<30)}
	for _, step := range s.ahead {
		play(d, step)
		m.play(step)
	}
	return d, m
}

// mustAgree plays one step on both; it answers whether they agree on its answer and on what lies there then.
func mustAgree(t *testing.T, d *disk.Disk, m *model, s step) bool {
	t.Helper()
	got, want := play(d, s), m.play(s)
	if got != want {
		t.Errorf("P12.2 to P12.11: %v = %+v, want %+v", s, got, want)
		return false
	}
	if lies, synced := d.Look(); string(lies) != m.synced+m.tail || synced != len(m.synced) || d.Dead() != m.dead {
		t.Errorf("P12.2 to P12.12: behind %v %q and %d lie there, dead is %v, want %q and %d, %v", s, lies, synced, d.Dead(), m.synced+m.tail, len(m.synced), m.dead)
		return false
	}
	return true
}

// TestEveryShortRun plays all runs of four steps out of these, from disks of several kinds.
func TestEveryShortRun(t *testing.T) {
	steps := []step{
		{call: "Append"}, {call: "Append", p: "x"}, {call: "Append", p: "yz"},
		{call: "Sync"}, {call: "ReadAll"},
		{call: "Truncate", a: -1}, {call: "Truncate", a: 1}, {call: "Truncate", a: 3}, {call: "Truncate", a: 4},
		{call: "Arm", a: 0, b: 1}, {call: "Arm", a: 1, b: 2}, {call: "Arm", a: -1, b: -1},
		{call: "Crash", a: 0}, {call: "Crash", a: 1}, {call: "Revive"},
	}
	starts := []start{
		{room: 3},
		{data: "ab", room: 4},
		{data: "abc", room: 2},
		{data: "ab", room: 5, ahead: []step{{call: "Append", p: "cd"}}},
		{data: "ab", room: 5, ahead: []step{{call: "Append", p: "cd"}, {call: "Arm", a: 1, b: 1}, {call: "Arm", a: 0, b: 9}}},
		{data: "abc", room: 6, ahead: []step{{call: "Arm", a: 1, b: 1}, {call: "Crash"}}},
	}
	for _, from := range starts {
		for run := range len(steps) * len(steps) * len(steps) * len(steps) {
			d, m := from.begin()
			for rest, left := run, 4; left > 0; rest, left = rest/len(steps), left-1 {
				if !mustAgree(t, d, m, steps[rest%len(steps)]) {
					t.Fatalf("in run %d from %+v", run, from)
				}
			}
		}
	}
}

// drawnStep is a step that chance makes; sizes and numbers lie about what is there.
func drawnStep(random *rand.Rand, count int) step {
	switch random.Intn(16) {
	case 0, 1, 2, 3, 4:
		return step{call: "Append", p: strings.Repeat(string(rune('a'+random.Intn(26))), random.Intn(7))}
	case 5, 6:
		return step{call: "Sync"}
	case 7, 8:
		return step{call: "ReadAll"}
	case 9, 10:
		return step{call: "Truncate", a: random.Intn(count+4) - 2}
	case 11:
		return step{call: "Arm", a: random.Intn(8) - 1, b: random.Intn(9) - 2}
	case 12:
		return step{call: "Arm", a: random.Intn(4), b: math.MaxInt}
	case 13:
		return step{call: "Crash", a: random.Intn(9) - 2}
	default:
		return step{call: "Revive"}
	}
}

func TestLongRuns(t *testing.T) {
	random := rand.New(rand.NewSource(121))
	for run := range 400 {
		from := start{data: "abcdefgh"[:random.Intn(9)], room: random.Intn(40)}
		d, m := from.begin()
		for range 500 {
			if s := drawnStep(random, len(m.synced+m.tail)); !mustAgree(t, d, m, s) {
				t.Fatalf("in run %d from %+v", run, from)
			}
		}
	}
}

// TestLookChangesNothing plays one run on two disks and looks at one of them only, before every step and behind it.
func TestLookChangesNothing(t *testing.T) {
	random := rand.New(rand.NewSource(122))
	for range 300 {
		room := random.Intn(60)
		seen, unseen := disk.New(room), disk.New(room)
		for range 300 {
			s := drawnStep(random, random.Intn(20))
			for range random.Intn(4) {
				seen.Look()
				seen.Dead()
			}
			got, want := play(seen, s), play(unseen, s)
			first, n := seen.Look()
			second, m := seen.Look()
			if string(first) != string(second) || n != m {
				t.Fatalf("P12.12: Look tells %q and %d, then %q and %d", first, n, second, m)
			}
			if got != want {
				t.Fatalf("P12.12: %v at a disk that is looked at is %+v, else %+v", s, got, want)
			}
		}
		want, n := unseen.Look()
		mustLie(t, seen, string(want), n)
	}
}

// TestWhatIsSyncedStays looks ahead of every step and behind it: what is synced goes by a Truncate that is done, and by nothing else.
func TestWhatIsSyncedStays(t *testing.T) {
	random := rand.New(rand.NewSource(123))
	fails := 0
	for range 400 {
		d := disk.New(random.Intn(60))
		for range 400 {
			before, synced := d.Look()
			alive := !d.Dead()
			s := drawnStep(random, len(before))
			got := play(d, s)
			after, now := d.Look()
			if alive && d.Dead() {
				fails++
				mustBeginning(t, s, before, after, synced, now)
			}
			if s.call == "Truncate" && got.err == nil {
				continue
			}
			if now < synced || string(after[:synced]) != string(before[:synced]) {
				t.Fatalf("P12.13: %v makes %q, synced %d, to %q, synced %d", s, before, synced, after, now)
			}
		}
	}
	if fails < 1000 {
		t.Errorf("only %d times the power failed", fails)
	}
}

// mustBeginning fails unless the bytes behind a failing of the power are the synced ones and a beginning of the tail, all of them synced.
func mustBeginning(t *testing.T, s step, before, after []byte, synced, now int) {
	t.Helper()
	whole := string(before)
	if s.call == "Append" {
		whole += s.p
	}
	if now != len(after) || len(after) < synced || !strings.HasPrefix(whole, string(after)) {
		t.Fatalf("P12.13: the power fails at %v: %q, synced %d, is %q, synced %d, then", s, before, synced, after, now)
	}
}
