package world_test

import (
	"math/rand"
	"testing"

	"usher/api"
)

// cutAt puts in the place of a step Bytes several, whose data one behind the other is its data; places rise.
func cutAt(script []api.Step, number int, places ...int) []api.Step {
	list := append([]api.Step{}, script[:number]...)
	from := 0
	for _, to := range append(places, len(script[number].Data)) {
		list = append(list, bytesOn(script[number].Conn, script[number].Data[from:to]))
		from = to
	}
	return append(list, script[number+1:]...)
}

// TestEveryCut: W2; every step of the tour, cut at every place, and byte by byte.
func TestEveryCut(t *testing.T) {
	t.Parallel()
	acts := tour()
	text := textOf(config())
	for n, a := range acts {
		script := steps(acts[:n+1])
		number := len(script) - 2 // its bytes; behind them a tick
		want := numberless(mustRun(t, text, script...))
		var all []int
		for place := range len(a.raw) + 1 {
			all = append(all, place)
			if n%4 == 0 || place%9 == n%9 || place > len(a.raw)-5 {
				mustBeSame(t, "W2: "+a.name, numberless(mustRun(t, text, cutAt(script, number, place)...)), want)
			}
		}
		mustBeSame(t, "W2: "+a.name, numberless(mustRun(t, text, cutAt(script, number, all...)...)), want)
	}
}

// TestCutsOfOneChunk: W2; all requests of the tour in one chunk, which is cut in many ways: a request, a half and more at once.
func TestCutsOfOneChunk(t *testing.T) {
	random := rand.New(rand.NewSource(204))
	acts := tour()
	text := textOf(config())
	script := append(drawsOf(acts), bytesOn(6, rawOf(acts)+"nonsense\r\n\r\n"+home), tick(1))
	number := len(script) - 2
	size := len(script[number].Data)
	want := numberless(mustRun(t, text, script...))
	if len(want.Outs) != len(acts)+1 {
		t.Fatalf("W2: %d answers", len(want.Outs))
	}
	var all []int
	for place := range size {
		all = append(all, place)
	}
	mustBeSame(t, "W2", numberless(mustRun(t, text, cutAt(script, number, all...)...)), want)
	for range 300 {
		var places []int
		for at := random.Intn(size); at < size; at += random.Intn(oneOf(random, 3, 40, 900)) + random.Intn(2) {
			places = append(places, at)
		}
		mustBeSame(t, "W2", numberless(mustRun(t, text, cutAt(script, number, places...)...)), want)
	}
}

// TestCutsOfRuns: W2; the steps of runs by chance, with all that may fail, cut where the power does not fail amid them.
func TestCutsOfRuns(t *testing.T) {
	t.Parallel()
	random := rand.New(rand.NewSource(205))
	cuts := 0
	for range 60 {
		p := newTroupe(t, random, false)
		p.playOn(120)
		text := textOf(p.config)
		want := numberless(mustRun(t, text, p.script...))
		// Where the machine boots amid a step, what is left of its data would come in on a new connection.
		m := newModel(p.config)
		var whole []int
		for i, s := range p.script {
			boots := m.boots
			m.do(s)
			if s.Kind == api.StepBytes && m.boots == boots {
				whole = append(whole, i)
			}
		}
		for range 10 {
			number := oneOf(random, whole...)
			size := len(p.script[number].Data)
			a, b := random.Intn(size+1), random.Intn(size+1)
			mustBeSame(t, "W2", numberless(mustRun(t, text, cutAt(p.script, number, min(a, b), max(a, b))...)), want)
			cuts++
		}
		all := append([]api.Step{}, p.script...)
		for i := len(whole) - 1; i >= 0; i-- {
			if random.Intn(2) == 0 {
				all = cutAt(all, whole[i], random.Intn(len(all[whole[i]].Data)+1))
			}
		}
		mustBeSame(t, "W2", numberless(mustRun(t, text, all...)), want)
	}
	if cuts < 500 {
		t.Errorf("%d cuts: too few to tell", cuts)
	}
}
