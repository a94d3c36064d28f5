package pkce_test

import (
	"math/rand"
	"strings"
	"testing"

	"usher/api"
	"usher/pkce"
)

func always(string) bool { return true }
func never(string) bool  { return false }

func TestSizesOfDraws(t *testing.T) {
	s := pkce.NewSource()
	if s.Left() != 0 {
		t.Errorf("P10.7: in a new source %d wait", s.Left())
	}
	left := 0
	for size := range 100 {
		if size == 32 {
			left++
			mustPush(t, s, strings.Repeat("d", size), nil, left)
			continue
		}
		mustPush(t, s, strings.Repeat("d", size), api.ErrArg, left)
	}
	for _, size := range []int{256 + 32, 1 << 16, 1<<16 + 32, 1 << 20} {
		mustPush(t, s, strings.Repeat("d", size), api.ErrArg, left)
	}
	mustFresh(t, s, nil, idOf(strings.Repeat("d", 32)), nil, 0)
	mustFresh(t, s, nil, "", api.ErrDry, 0)
}

// TestMostDraws: the draw that is one too many leaves those that wait as they are, and one of a wrong size is refused for its size.
func TestMostDraws(t *testing.T) {
	s := pkce.NewSource()
	for i := range 1024 {
		mustPush(t, s, numberedDraw(i), nil, i+1)
	}
	for range 3 {
		mustPush(t, s, drawOf(255), api.ErrMany, 1024)
		for _, size := range []int{0, 31, 33, 64} {
			mustPush(t, s, strings.Repeat("d", size), api.ErrArg, 1024)
		}
	}
	mustFresh(t, s, never, idOf(numberedDraw(0)), nil, 1023)
	mustPush(t, s, numberedDraw(1024), nil, 1024)
	mustPush(t, s, numberedDraw(1025), api.ErrMany, 1024)
	mustFresh(t, s, always, "", api.ErrTaken, 1023)
	mustPush(t, s, numberedDraw(1026), nil, 1024)
	mustPush(t, s, numberedDraw(1027), api.ErrMany, 1024)
	for i := 2; i <= 1024; i++ {
		mustFresh(t, s, nil, idOf(numberedDraw(i)), nil, 1025-i)
	}
	mustFresh(t, s, nil, idOf(numberedDraw(1026)), nil, 0)
	mustFresh(t, s, nil, "", api.ErrDry, 0)
}

// numberedDraw has its number at both ends.
func numberedDraw(n int) string {
	number := oneByte(n>>16) + oneByte(n>>8) + oneByte(n)
	return number + strings.Repeat("\x5a", 26) + number
}

func TestFreshOfEveryByte(t *testing.T) {
	s := pkce.NewSource()
	for n := range 256 {
		mustPush(t, s, drawOf(n), nil, n+1)
	}
	for n := range 256 {
		mustFresh(t, s, nil, idOf(drawOf(n)), nil, 255-n)
	}
	random := rand.New(rand.NewSource(108))
	for range 5000 {
		draw := noise(random, everyByte(), 32)
		mustPush(t, s, draw, nil, 1)
		mustFresh(t, s, never, idOf(draw), nil, 0)
	}
}

// An asked function keeps what it was asked, and how many draws waited then.
type asked struct {
	source *pkce.Source
	yes    bool
	ids    []string
	left   []int
}

func (a *asked) known(id string) bool {
	a.ids = append(a.ids, id)
	a.left = append(a.left, a.source.Left())
	return a.yes
}

// TestKnownIsAskedOnce looks at what known is handed, how many times, and what it sees of the source.
func TestKnownIsAskedOnce(t *testing.T) {
	for _, yes := range []bool{false, true} {
		for count := 1; count <= 20; count++ {
			s := pkce.NewSource()
			for i := range count {
				mustPush(t, s, numberedDraw(i), nil, i+1)
			}
			for i := range count {
				a := &asked{source: s, yes: yes}
				want, refusal := idOf(numberedDraw(i)), error(nil)
				if yes {
					want, refusal = "", api.ErrTaken
				}
				mustFresh(t, s, a.known, want, refusal, count-1-i)
				if len(a.ids) != 1 || a.ids[0] != idOf(numberedDraw(i)) || a.left[0] != count-1-i {
					t.Errorf("P10.8: known was asked %q when %v waited, want once %q when %d did", a.ids, a.left, idOf(numberedDraw(i)), count-1-i)
				}
			}
		}
	}
}

func TestKnownIsNotAskedInVain(t *testing.T) {
	s := pkce.NewSource()
	for _, yes := range []bool{false, true} {
		a := &asked{source: s, yes: yes}
		mustFresh(t, s, a.known, "", api.ErrDry, 0)
		mustPush(t, s, "short", api.ErrArg, 0)
		mustFresh(t, s, a.known, "", api.ErrDry, 0)
		mustPush(t, s, drawOf(1), nil, 1)
		mustFresh(t, s, nil, idOf(drawOf(1)), nil, 0)
		mustFresh(t, s, a.known, "", api.ErrDry, 0)
		if len(a.ids) != 0 {
			t.Errorf("P10.8: known was asked %q though no draw waited", a.ids)
		}
	}
}

// TestDrawIsGone: whatever known answers, the next one comes next.
func TestDrawIsGone(t *testing.T) {
	s := pkce.NewSource()
	for n := range 4 {
		mustPush(t, s, drawOf(n), nil, n+1)
	}
	mustFresh(t, s, always, "", api.ErrTaken, 3)
	mustFresh(t, s, never, idOf(drawOf(1)), nil, 2)
	mustFresh(t, s, nil, idOf(drawOf(2)), nil, 1)
	mustFresh(t, s, always, "", api.ErrTaken, 0)
	mustFresh(t, s, always, "", api.ErrDry, 0)
	mustPush(t, s, drawOf(9), nil, 1)
	mustFresh(t, s, never, idOf(drawOf(9)), nil, 0)
}

// TestKnownDecidesByTheIdentifier: the same function lets one through and stops another.
func TestKnownDecidesByTheIdentifier(t *testing.T) {
	s := pkce.NewSource()
	given := map[string]bool{}
	known := func(id string) bool { return given[id] }
	for round, n := range []int{1, 2, 1, 3, 2, 1, 4, 4} {
		mustPush(t, s, drawOf(n), nil, 1)
		id := idOf(drawOf(n))
		if given[id] {
			mustFresh(t, s, known, "", api.ErrTaken, 0)
			continue
		}
		mustFresh(t, s, known, id, nil, 0)
		given[id] = true
		if round == 0 && !given["AQEBAQEBAQEBAQEBAQEBAQEBAQEBAQEBAQEBAQEBAQE"] {
			t.Errorf("P10.8: the first identifier is among %v", given)
		}
	}
}

// TestKnownThatUsesTheSource: what comes of it is free, but it ends.
func TestKnownThatUsesTheSource(t *testing.T) {
	s := pkce.NewSource()
	for n := range 3 {
		mustPush(t, s, drawOf(n), nil, n+1)
	}
	s.Fresh(func(string) bool {
		s.Push(drawOf(7))
		s.Fresh(nil)
		s.Fresh(nil)
		s.Fresh(nil)
		s.Fresh(nil)
		return false
	})
}

func TestTwoSources(t *testing.T) {
	one, other := pkce.NewSource(), pkce.NewSource()
	mustPush(t, one, drawOf(1), nil, 1)
	mustFresh(t, other, nil, "", api.ErrDry, 0)
	mustPush(t, other, drawOf(2), nil, 1)
	mustPush(t, other, drawOf(3), nil, 2)
	mustPush(t, one, drawOf(4), nil, 2)
	mustFresh(t, other, never, idOf(drawOf(2)), nil, 1)
	mustFresh(t, one, always, "", api.ErrTaken, 1)
	mustFresh(t, other, nil, idOf(drawOf(3)), nil, 0)
	mustFresh(t, one, nil, idOf(drawOf(4)), nil, 0)
	for i := range 1024 {
		mustPush(t, one, drawOf(i), nil, i+1)
	}
	mustPush(t, one, drawOf(5), api.ErrMany, 1024)
	mustPush(t, other, drawOf(6), nil, 1)
	mustFresh(t, other, func(string) bool { return one.Left() != 1024 }, idOf(drawOf(6)), nil, 0)
}

// TestOrderOfIdentifiers: two draws that differ in one bit give two identifiers, the same draw the same one, in the order of the draws.
func TestOrderOfIdentifiers(t *testing.T) {
	random := rand.New(rand.NewSource(109))
	for _, base := range []string{drawOf(0), drawOf(255), noise(random, everyByte(), 32)} {
		s := pkce.NewSource()
		draws := []string{base}
		for bit := range 8 * 32 {
			draws = append(draws, flipped(base, bit/8, 1<<(bit%8)))
		}
		draws = append(draws, draws...)
		for i, draw := range draws {
			mustPush(t, s, draw, nil, i+1)
		}
		times := map[string]int{}
		for i, draw := range draws {
			mustFresh(t, s, func(id string) bool { times[id]++; return false }, idOf(draw), nil, len(draws)-1-i)
		}
		if len(times) != len(draws)/2 {
			t.Errorf("P10.9: %d draws gave %d identifiers", len(draws)/2, len(times))
		}
		for id, count := range times {
			if count != 2 {
				t.Errorf("P10.9: %q came %d times, want 2", id, count)
			}
		}
	}
}

// TestSourceIsALine plays pushes and takings by turns against a plain list, also where it is full or dry for long.
func TestSourceIsALine(t *testing.T) {
	random := rand.New(rand.NewSource(110))
	for _, pushes := range []int{1, 4, 5, 6, 9} {
		s := pkce.NewSource()
		var line []string
		for i := range 20000 {
			switch {
			case random.Intn(10) >= pushes:
				line = mustTakeFirst(t, s, line, random.Intn(3))
			case random.Intn(20) == 0:
				mustPush(t, s, noise(random, "d", random.Intn(32)), api.ErrArg, len(line))
			case len(line) == 1024:
				mustPush(t, s, numberedDraw(i), api.ErrMany, 1024)
			default:
				line = append(line, numberedDraw(i))
				mustPush(t, s, numberedDraw(i), nil, len(line))
			}
		}
		for len(line) > 0 {
			line = mustTakeFirst(t, s, line, 2)
		}
		mustFresh(t, s, always, "", api.ErrDry, 0)
	}
}

// mustTakeFirst takes a draw by one of three functions; it answers the line without it.
func mustTakeFirst(t *testing.T, s *pkce.Source, line []string, how int) []string {
	t.Helper()
	known := []func(string) bool{nil, never, always}[how]
	switch {
	case len(line) == 0:
		mustFresh(t, s, known, "", api.ErrDry, 0)
		return nil
	case how == 2:
		mustFresh(t, s, known, "", api.ErrTaken, len(line)-1)
	default:
		mustFresh(t, s, known, idOf(line[0]), nil, len(line)-1)
	}
	return line[1:]
}
