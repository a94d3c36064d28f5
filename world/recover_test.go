package world_test

import (
	"math/rand"
	"testing"

	"usher/api"
)

// mustRecover fails unless a trace's disk and time, taken up again, give what is kept and nothing else.
func mustRecover(t *testing.T, text string, of api.Trace) {
	t.Helper()
	want := of
	want.Outs, want.Boots = nil, 1
	again := mustResume(t, text, of.Disk, of.Now)
	mustBeSame(t, "W5", again, want)
	want.Boots = 3
	mustBeSame(t, "W5", mustResume(t, text, again.Disk, again.Now, crash(0), arm(0, 0), arm(1, 0), crash(7)), want)
}

// TestRecovery: W5; behind each step of the tour, also where it died.
func TestRecovery(t *testing.T) {
	acts := tour()
	text := textOf(config())
	for i, a := range acts {
		mustRecover(t, text, mustRun(t, text, steps(acts[:i])...))
		for _, keep := range []int{0, 20, 1000} {
			mustRecover(t, text, mustRun(t, text, join(steps(acts[:i]), draws(a.draws...), []api.Step{arm(1, keep), bytesOn(0, a.raw)})...))
		}
	}
}

// mustTakeOver fails unless the script b goes on behind a and a Crash as another machine would, that is given the bytes of the disk and the time alone.
func mustTakeOver(t *testing.T, text string, a, b []api.Step) {
	t.Helper()
	first := mustRun(t, text, join(a, []api.Step{crash(0)})...)
	whole := mustRun(t, text, join(a, []api.Step{crash(0)}, b)...)
	second := mustResume(t, text, first.Disk, first.Now, b...)
	want := second
	want.Outs = append([]api.Out{}, first.Outs...)
	for _, o := range second.Outs {
		o.Step += len(a) + 1
		want.Outs = append(want.Outs, o)
	}
	want.Boots = first.Boots + second.Boots - 1
	mustBeSame(t, "W5", whole, want)
}

// TestTakingOver: W5; the tour, broken off between any two requests.
func TestTakingOver(t *testing.T) {
	acts := tour()
	for i := range len(acts) + 1 {
		mustTakeOver(t, textOf(config()), steps(acts[:i]), steps(acts[i:]))
	}
}

// TestTakingOverRuns: W5; runs by chance, broken off wherever no draw and no arm waits; with a brake, too, which begins anew behind a boot.
func TestTakingOverRuns(t *testing.T) {
	t.Parallel()
	random := rand.New(rand.NewSource(207))
	count, kept := 0, 0
	for range 300 {
		p := newTroupe(t, random, random.Intn(2) == 0)
		p.playOn(120)
		m := newModel(p.config)
		for i, s := range p.script {
			m.do(s)
			if len(m.draws) == 0 && len(m.disk.arms) == 0 && random.Intn(2) == 0 {
				mustTakeOver(t, textOf(p.config), p.script[:i+1], p.script[i+1:])
				count++
				if len(m.disk.data) > 0 {
					kept++
				}
			}
		}
		mustRecover(t, textOf(p.config), mustRun(t, textOf(p.config), p.script...))
	}
	if count < 200 || kept < 80 {
		t.Errorf("%d runs taken up, %d of them with something kept: too few to tell", count, kept)
	}
}
