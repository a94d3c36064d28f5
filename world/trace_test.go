package world_test

import (
	"math/rand"
	"runtime"
	"slices"
	"strings"
	"sync"
	"testing"
	"time"

	"usher/api"
	"usher/world"
)

// TestTrace: P20.10; each part of it, behind a script that changes all of them.
func TestTrace(t *testing.T) {
	script := join(steps(tour()), []api.Step{crash(0), tick(3)})
	m := modelOf(config(), script)
	got := mustRun(t, textOf(config()), script...)
	want := m.trace()
	if want.Now != len(tour())+3 || want.Boots != 2 || len(want.Outs) != len(tour()) || len(want.State.Sessions) != 2 || len(want.State.Codes) != 4 || len(want.State.Tokens) != 4 || len(want.State.Refreshes) != 3 || len(want.State.Consents) != 0 {
		t.Fatalf("the model is not where a test takes it to be: %+v", want)
	}
	mustBeSame(t, "P20.10", got, want)
	last := -1
	for _, o := range got.Outs {
		if o.Step <= last {
			t.Fatalf("P20.10: an answer of the step %d behind one of %d", o.Step, last)
		}
		last = o.Step
	}
}

// TestTwice: the same script gives the same trace, however goroutines run; also when several runs go on at the same time.
func TestTwice(t *testing.T) {
	random := rand.New(rand.NewSource(202))
	p := newTroupe(t, random, false)
	p.playOn(300)
	text, want := textOf(p.config), p.model.trace()
	defer runtime.GOMAXPROCS(runtime.GOMAXPROCS(1))
	for _, processors := range []int{1, 2, 8} {
		runtime.GOMAXPROCS(processors)
		var all sync.WaitGroup
		traces := make([]api.Trace, 16)
		for i := range traces {
			all.Go(func() { traces[i], _ = world.Run(text, p.script) })
		}
		all.Wait()
		for _, got := range traces {
			mustBeSame(t, "P0.2", got, want)
		}
	}
}

// TestGoroutinesEnd: when a call has answered, with an error or not, as many run as before.
func TestGoroutinesEnd(t *testing.T) {
	text := textOf(config())
	script := steps(tour())
	before := runtime.NumGoroutine()
	for n := range 50 {
		world.Run(text, script)
		world.Run(text, nil)
		world.Run("no configuration", script)
		world.Resume(text, "", -1, script)
		world.Resume(text, string(notPlayable()[n%6]), 0, script)
	}
	for range 200 {
		if runtime.NumGoroutine() <= before {
			return
		}
		time.Sleep(time.Millisecond) // one that has done all may still be on its way out
	}
	t.Errorf("P0.2: %d goroutines run behind %d ahead", runtime.NumGoroutine(), before)
}

// TestMemory: P0.5; the script and its spare room stay as they were, and who writes a trace full changes nothing else.
func TestMemory(t *testing.T) {
	text := textOf(config())
	full := append(steps(tour()), tick(1), crash(0), bytesOn(0, "x"))
	script := full[:len(full)-3]
	before := slices.Clone(full)
	first := mustRun(t, text, script...)
	second := mustRun(t, text, script...)
	if !slices.Equal(full, before) {
		t.Fatal("P0.5: the spare room of the steps has changed")
	}
	for i := range first.Outs {
		first.Outs[i] = api.Out{}
	}
	for i := range first.State.Codes {
		fill(first.State.Codes[i].Scopes)
		first.State.Codes[i] = api.Code{}
	}
	for i := range first.State.Tokens {
		fill(first.State.Tokens[i].Scopes)
		first.State.Tokens[i] = api.Token{}
	}
	for i := range first.State.Refreshes {
		fill(first.State.Refreshes[i].Scopes)
	}
	for i := range first.State.Sessions {
		first.State.Sessions[i] = api.Session{}
	}
	mustBeSame(t, "P0.5", mustRun(t, text, script...), second)
	// No two lists of one answer share memory.
	mustBeOwn(t, mustRun(t, text, script...), second)
	// Data may be written over once the call has answered: it is a text, so nobody can; the steps may.
	for i := range script {
		script[i] = api.Step{}
	}
	mustBeSame(t, "P0.5", second, mustRun(t, text, before[:len(script)]...))
}

// fill writes a list full, its spare room too.
func fill(list []string) {
	list = list[:cap(list)]
	for i := range list {
		list[i] = "spoiled"
	}
}

// mustBeOwn fills the lists of scopes of a trace one by one, and fails if another one changes by it.
func mustBeOwn(t *testing.T, got, want api.Trace) {
	t.Helper()
	for i := range got.State.Codes {
		fill(got.State.Codes[i].Scopes)
		got.State.Codes[i].Scopes = want.State.Codes[i].Scopes
		mustBeSame(t, "P0.5", got, want)
	}
	for i := range got.State.Tokens {
		fill(got.State.Tokens[i].Scopes)
		got.State.Tokens[i].Scopes = want.State.Tokens[i].Scopes
		mustBeSame(t, "P0.5", got, want)
	}
	for i := range got.State.Refreshes {
		fill(got.State.Refreshes[i].Scopes)
		got.State.Refreshes[i].Scopes = want.State.Refreshes[i].Scopes
		mustBeSame(t, "P0.5", got, want)
	}
}

// TestEveryCallEnds: at texts, data, times and steps of any kind no call panics.
func TestEveryCallEnds(t *testing.T) {
	t.Parallel()
	random := rand.New(rand.NewSource(203))
	numbers := []int{0, 1, -1, 15, 16, 17, 1 << 40, 1<<40 + 1, 1<<63 - 1, -1 << 63, 3, 7}
	raw := rawOf(tour())
	log := mustRun(t, textOf(config()), steps(tour())...).Disk
	errs := map[error]int{}
	for range 1500 {
		var script []api.Step
		for range random.Intn(30) {
			from := random.Intn(len(raw))
			script = append(script, api.Step{Kind: random.Intn(9) - 1, Conn: oneOf(random, 0, 0, 0, oneOf(random, numbers...)), N: oneOf(random, numbers...), M: oneOf(random, numbers...), Data: oneOf(random, raw[from:min(len(raw), from+random.Intn(900))], drawOf(byte(random.Intn(30))), oneOf(random, tour()...).raw, "", "\r\n", home)})
		}
		text := textOf(braked(random.Intn(3), random.Intn(3)))
		if random.Intn(8) == 0 {
			at := random.Intn(len(text))
			text = text[:at] + text[min(len(text), at+random.Intn(5)):]
		}
		data := oneOf(random, log[:random.Intn(len(log)+1)], "", log)
		switch at := random.Intn(len(log)); random.Intn(6) {
		case 0:
			data += log[at:]
		case 1:
			data += string(notPlayable()[random.Intn(6)])
		case 2:
			data += strings.Repeat("x", random.Intn(5))
		}
		_, err := world.Resume(text, data, oneOf(random, 0, 5, 40, oneOf(random, numbers...)), script)
		errs[err]++
	}
	for _, err := range []error{nil, api.ErrArg, api.ErrText, api.ErrLog} {
		if errs[err] == 0 {
			t.Errorf("%v was never answered: too few calls to tell", err)
		}
	}
}
