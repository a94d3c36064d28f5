package world_test

import (
	"math/rand"
	"slices"
	"strings"
	"testing"

	"usher/api"
)

// mustBeEither fails unless what is kept and what lies on the disk is that of the state ahead or of the one behind, and the answers are those of the one ahead.
func mustBeEither(t *testing.T, what string, got, ahead, behind api.Trace) (isBehind bool) {
	t.Helper()
	if !slices.Equal(numberless(got).Outs, numberless(ahead).Outs) {
		t.Fatalf("W4: %s: %d answers, want %d: those ahead", what, len(got.Outs), len(ahead.Outs))
	}
	switch {
	case got.Disk == ahead.Disk && isSameState(got.State, ahead.State):
		return false
	case got.Disk == behind.Disk && isSameState(got.State, behind.State):
		return true
	}
	t.Fatalf("W4: %s: kept is %+v\nahead %+v\nbehind %+v", what, got.State, ahead.State, behind.State)
	return false
}

// TestEveryOperationDies: W4; each request that writes, each operation of the disk, with no byte, some and all of the tail kept; and then each operation of the boot.
func TestEveryOperationDies(t *testing.T) {
	t.Parallel()
	acts := tour()
	text := textOf(config())
	for i, a := range acts {
		ahead, behind := mustRun(t, text, steps(acts[:i])...), mustRun(t, text, steps(acts[:i+1])...)
		size := len(behind.Disk) - len(ahead.Disk)
		if !a.writes {
			unhurt := mustRun(t, text, join(steps(acts[:i]), draws(a.draws...), []api.Step{arm(0, 0), bytesOn(0, a.raw), tick(1)})...)
			mustBeSame(t, "W4: "+a.name+" is no operation", numberless(unhurt), numberless(behind))
			continue
		}
		for operation := range 2 {
			for _, keep := range []int{-1, 0, 1, 7, 8, 9, size / 2, size - 1, size, size + 1, 1 << 40} {
				for _, more := range [][]api.Step{nil, {arm(0, 0)}, {arm(1, 3)}, {arm(2, 0)}, {arm(1, 0), arm(0, 9), arm(1, 1<<30)}} {
					script := join(steps(acts[:i]), draws(a.draws...), []api.Step{arm(operation, keep)}, more, []api.Step{bytesOn(0, a.raw), tick(1)})
					got := mustRun(t, text, script...)
					if isBehind := mustBeEither(t, a.name, got, ahead, behind); isBehind != (keep >= size) || got.Boots != 2 {
						t.Fatalf("W4: %s: %d of %d bytes kept, yet all of it: %v; %d boots", a.name, keep, size, isBehind, got.Boots)
					}
				}
			}
		}
	}
}

// TestEveryOperationOfOneChunk: W4; all requests come in one chunk, and each operation of the whole run dies in its turn.
func TestEveryOperationOfOneChunk(t *testing.T) {
	acts := tour()
	c := config()
	m := modelOf(c, append(drawsOf(acts), bytesOn(0, rawOf(acts))))
	operations := m.disk.operations - 2 // those of the first boot
	if operations < 30 {
		t.Fatalf("a test's run has %d operations", operations)
	}
	died := map[int]bool{}
	for after := range operations + 1 {
		for _, keep := range []int{0, 1, 40, 1 << 30} {
			got := mustBeAsModel(t, c, join(drawsOf(acts), []api.Step{arm(after, keep), bytesOn(0, rawOf(acts))}))
			n := len(got.Outs)
			if after == operations {
				if n != len(acts) || got.Boots != 1 {
					t.Errorf("W4: an arm behind all operations has died")
				}
				continue
			}
			died[n] = true
			ahead := mustRun(t, textOf(c), append(drawsOf(acts), bytesOn(0, rawOf(acts[:n])))...)
			behind := mustRun(t, textOf(c), append(drawsOf(acts), bytesOn(0, rawOf(acts[:n+1])))...)
			mustBeEither(t, acts[n].name, got, ahead, behind)
			if !acts[n].writes || got.Boots != 2 {
				t.Errorf("W4: amid %s the power has failed, and the machine has booted %d times", acts[n].name, got.Boots)
			}
		}
	}
	for i, a := range acts {
		if died[i] != a.writes {
			t.Errorf("W4: amid %s the power has failed: %v", a.name, died[i])
		}
	}
}

// TestCrashesBetween: a power failure between any two steps changes nothing but the count of the boots; nor do arms that die while the machine boots.
func TestCrashesBetween(t *testing.T) {
	script := steps(tour())
	text := textOf(config())
	want := numberless(mustRun(t, text, script...))
	for _, death := range [][]api.Step{{crash(0)}, {crash(1 << 30)}, {arm(0, 0), crash(0)}, {arm(1, 5), crash(0)}, {arm(0, 0), arm(0, 1), arm(1, 0), arm(0, 0), crash(0)}, {crash(0), crash(0)}} {
		for at := range len(script) + 1 {
			got := numberless(mustRun(t, text, join(script[:at], death, script[at:])...))
			wantBoots := want.Boots + strings.Count(kindsOf(death), "5")
			if got.Boots != wantBoots {
				t.Fatalf("W4: %d boots, want %d", got.Boots, wantBoots)
			}
			got.Boots = want.Boots
			mustBeSame(t, "W4: a power failure between two steps", got, want)
		}
	}
}

func kindsOf(script []api.Step) string {
	var b strings.Builder
	for _, s := range script {
		b.WriteString(decimal(s.Kind))
	}
	return b.String()
}

// TestDeathsInRuns: W4; in runs by chance the arm that dies amid a request leaves what was kept ahead of it or behind it.
func TestDeathsInRuns(t *testing.T) {
	t.Parallel()
	random := rand.New(rand.NewSource(206))
	aheads, behinds := 0, 0
	for range 300 {
		p := newTroupe(t, random, true)
		p.playOn(100)
		text := textOf(p.config)
		m := newModel(p.config)
		for i, s := range p.script {
			before := *m
			boots := m.boots
			m.do(s)
			if s.Kind != api.StepBytes || m.boots == boots {
				continue
			}
			ahead := mustRun(t, text, p.script[:i]...)
			got := mustRun(t, text, p.script[:i+1]...)
			// The one behind: the same request once more, on the state ahead, with the draws and without the arms.
			var waiting []api.Step
			for _, d := range before.draws {
				waiting = append(waiting, api.Step{Kind: api.StepDraw, Data: d})
			}
			behind := mustResume(t, text, ahead.Disk, ahead.Now, append(waiting, s)...)
			behind.Outs = append(slices.Clone(ahead.Outs), behind.Outs...)
			if mustBeEither(t, s.Data, got, ahead, behind) {
				behinds++
			} else {
				aheads++
			}
		}
	}
	if aheads < 50 || behinds < 50 {
		t.Errorf("%d and %d deaths: too few to tell", aheads, behinds)
	}
}
