package world_test

import (
	"math"
	"slices"
	"strings"
	"testing"

	"usher/api"
)

// between puts a step behind every step of a script, and ahead of the first.
func between(script []api.Step, extra api.Step) []api.Step {
	list := []api.Step{extra}
	for _, s := range script {
		list = append(list, s, extra)
	}
	return list
}

// TestStepsThatDoNothing: kinds that are none, connections that are none, ticks that are none, draws that are refused.
func TestStepsThatDoNothing(t *testing.T) {
	script := steps(tour())
	want := numberless(mustRun(t, textOf(config()), script...))
	var nothing []api.Step
	for _, kind := range []int{0, 7, 8, -1, 100, math.MaxInt, math.MinInt} {
		nothing = append(nothing, api.Step{Kind: kind, Conn: 0, N: 3, M: 4, Data: home}, api.Step{Kind: kind, Data: drawOf(99)})
	}
	for _, conn := range []int{-1, 16, 17, math.MaxInt, math.MinInt} {
		nothing = append(nothing, bytesOn(conn, home), bytesOn(conn, ""), bytesOn(conn, "x\r\n\r\n"), hangUp(conn))
	}
	for _, n := range []int{0, -1, -100, math.MinInt} {
		nothing = append(nothing, tick(n), api.Step{Kind: api.StepTick, N: n, M: 5, Conn: 3, Data: home})
	}
	for _, length := range []int{0, 1, 31, 33, 64} {
		nothing = append(nothing, api.Step{Kind: api.StepDraw, Data: strings.Repeat("d", length), N: 32})
	}
	nothing = append(nothing, bytesOn(0, ""), bytesOn(7, ""), hangUp(7), hangUp(0)) // between requests the other side may close
	for _, extra := range nothing {
		got := mustRun(t, textOf(config()), between(script, extra)...)
		for i, o := range got.Outs {
			if o.Step%2 != 1 {
				t.Fatalf("P20.4: %+v has an answer of its own: %d", extra, i)
			}
		}
		mustBeSame(t, "'The steps': "+decimal(extra.Kind), numberless(got), want)
	}
}

// TestConnections: the first and the last of them are there.
func TestConnections(t *testing.T) {
	for conn := -2; conn <= 18; conn++ {
		got := mustRun(t, textOf(config()), bytesOn(conn, home[:5]), tick(1), bytesOn(conn, home[5:]))
		if conn < 0 || conn > 15 {
			mustOut(t, "P20.4", got)
			continue
		}
		mustOut(t, "P20.4", got, out(2, conn, homeText))
	}
}

// TestOtherFields: what a step's kind does not name is not looked at.
func TestOtherFields(t *testing.T) {
	script := join([]api.Step{arm(9, 3), crash(2)}, steps(tour()))
	want := mustRun(t, textOf(config()), script...)
	full := slices.Clone(script)
	for i := range full {
		s := &full[i]
		if s.Kind != api.StepBytes && s.Kind != api.StepClose {
			s.Conn = []int{-1, 3, 99}[i%3]
		}
		if s.Kind != api.StepTick && s.Kind != api.StepCrash && s.Kind != api.StepArm {
			s.N = 1 << 41
		}
		if s.Kind != api.StepArm {
			s.M = -7
		}
		if s.Kind != api.StepBytes && s.Kind != api.StepDraw {
			s.Data = home
		}
	}
	mustBeSame(t, "'The steps'", mustRun(t, textOf(config()), full...), want)
}

// TestTicks: P20.5.
func TestTicks(t *testing.T) {
	for _, w := range []struct {
		from, want int
		ticks      []int
	}{
		{0, 0, []int{0}}, {0, 0, []int{-1}}, {0, 1, []int{1}}, {5, 5, []int{math.MinInt, -5, 0}}, {5, 13, []int{3, -2, 5, 0}},
		{0, api.MaxNow, []int{api.MaxNow}}, {0, api.MaxNow, []int{api.MaxNow + 1}}, {0, api.MaxNow, []int{math.MaxInt}}, {1, api.MaxNow, []int{math.MaxInt, math.MaxInt, -1}},
		{api.MaxNow, api.MaxNow, []int{1}}, {api.MaxNow - 1, api.MaxNow, []int{1}}, {api.MaxNow - 2, api.MaxNow - 1, []int{1}}, {api.MaxNow - 2, api.MaxNow, []int{1, 1, 1}},
	} {
		var script []api.Step
		for _, n := range w.ticks {
			script = append(script, tick(n))
		}
		if got := mustResume(t, textOf(config()), "", w.from, script...); got.Now != w.want {
			t.Errorf("P20.5: from %d by %d: %d, want %d", w.from, w.ticks, got.Now, w.want)
		}
	}
	// A request is served at the time at which its last byte comes.
	raw := login("ann", "password")
	got := mustRun(t, textOf(config()), draw(1), tick(3), bytesOn(0, raw[:20]), tick(4), bytesOn(0, raw[20:]), tick(5))
	if got.State.Sessions[0].At != 7 || got.Now != 12 {
		t.Errorf("P20.4: a session begun at %d, want 7", got.State.Sessions[0].At)
	}
}

// TestDraws: P20.6; they are used up in their order, and no more than MaxDraws wait.
func TestDraws(t *testing.T) {
	var script []api.Step
	for n := range api.MaxDraws + 3 {
		script = append(script, api.Step{Kind: api.StepDraw, Data: counted(n)})
	}
	enter := bytesOn(0, login("ann", "password"))
	for range 3 {
		script = append(script, enter, api.Step{Kind: api.StepDraw, Data: strings.Repeat("x", 31)})
	}
	for n := range 5 {
		script = append(script, api.Step{Kind: api.StepDraw, Data: counted(5000 + n)}) // there is place for three
	}
	for range api.MaxDraws + 1 {
		script = append(script, enter)
	}
	c := config()
	c.DiskBytes = 1 << 20
	got := mustRun(t, textOf(c), script...)
	for i, o := range got.Outs {
		want := idOf(counted(i))
		switch {
		case i >= api.MaxDraws+3:
			want = ""
		case i >= api.MaxDraws:
			want = idOf(counted(5000 + i - api.MaxDraws))
		}
		if sid, _ := read(t, o.Text).sid(); sid != want {
			t.Fatalf("P20.6: the session %d is %q, want %q", i, sid, want)
		}
	}
	if len(got.Outs) != api.MaxDraws+4 || len(got.State.Sessions) != api.MaxDraws+3 {
		t.Errorf("P20.6: %d answers, %d sessions", len(got.Outs), len(got.State.Sessions))
	}
}

// TestCloses: P20.7; of a free, an open and a shut connection, amid a request, and of another one.
func TestCloses(t *testing.T) {
	text := textOf(config())
	mustOut(t, "P20.7: free", mustRun(t, text, hangUp(2), bytesOn(2, home), hangUp(2), hangUp(2), bytesOn(2, home)), out(1, 2, homeText), out(4, 2, homeText))
	mustOut(t, "P20.7: shut", mustRun(t, text, bytesOn(2, "x\r\n\r\n"), bytesOn(2, home), hangUp(2), bytesOn(2, home)), out(0, 2, refusalText(400)), out(3, 2, homeText))
	for cut := range len(home) {
		mustOut(t, "P20.7: amid a request", mustRun(t, text, bytesOn(2, home[:cut]), hangUp(2), bytesOn(2, home)), out(2, 2, homeText))
		mustOut(t, "P20.7: another one", mustRun(t, text, bytesOn(2, home[:cut]), hangUp(3), hangUp(1), bytesOn(2, home[cut:])), out(3, 2, homeText))
	}
	raw := login("ann", "password")
	got := mustRun(t, text, draw(1), bytesOn(2, raw[:len(raw)-1]), hangUp(2), bytesOn(2, raw[len(raw)-1:]))
	if len(got.Outs) != 0 || got.Disk != "" {
		t.Errorf("P20.7: half a login was served: %+v", got)
	}
}

// TestCrashes: P20.8; whatever it keeps, there is no tail between two requests.
func TestCrashes(t *testing.T) {
	script := steps(tour())
	want := mustRun(t, textOf(config()), script...)
	for _, keep := range []int{0, -1, 1, 1000000, math.MaxInt, math.MinInt} {
		got := mustRun(t, textOf(config()), append(slices.Clone(script), crash(keep))...)
		want.Boots = 2
		mustBeSame(t, "P20.8", got, want)
	}
}

// TestArms: P20.9; with numbers of all sizes.
func TestArms(t *testing.T) {
	size := len(frameOf(api.Record{Kind: api.RecSession, ID: id(1), User: "ann"}).data)
	for _, after := range []int{math.MinInt, -1, 0, 1, 2, 3, math.MaxInt} {
		for _, keep := range []int{math.MinInt, -1, 0, 1, 7, 8, 9, size - 1, size, size + 1, math.MaxInt} {
			got := mustBeAsModel(t, config(), []api.Step{draw(1), arm(after, keep), bytesOn(0, login("ann", "password"))})
			wantKept := after > 1 || keep >= size
			if (len(got.State.Sessions) == 1) != wantKept || (got.Disk != "") != wantKept || (len(got.Outs) == 1) != (after > 1) || (got.Boots == 1) != (after > 1) {
				t.Errorf("P20.9: arm %d, %d: %+v", after, keep, got)
			}
		}
	}
}
