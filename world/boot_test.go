package world_test

import (
	"strings"
	"testing"

	"usher/api"
)

// TestBootsCount: P20.3; the first boot and each that follows counts once, however often the power fails within it.
func TestBootsCount(t *testing.T) {
	c := config()
	for arms := range 6 {
		for after := range 3 {
			var script []api.Step
			for range arms {
				script = append(script, arm(after, 0))
			}
			script = append(script, crash(0))
			got := mustBeAsModel(t, c, script)
			if after < 2 && got.Boots != 2 {
				t.Errorf("P20.3: %d arms of %d operations: %d boots, want 2", arms, after, got.Boots)
			}
		}
	}
	for n := range 5 {
		var script []api.Step
		for range n {
			script = append(script, crash(n-2))
		}
		if got := mustBeAsModel(t, c, script); got.Boots != 1+n {
			t.Errorf("P20.3: %d boots behind %d power failures", got.Boots, n)
		}
	}
}

// TestArmsGoOnWaiting: a boot is two operations (ReadAll, Sync), or three with a torn tail; a login is two.
func TestArmsGoOnWaiting(t *testing.T) {
	c := config()
	size := len(frameOf(api.Record{Kind: api.RecSession, ID: id(1), User: "ann"}).data)
	enter := bytesOn(0, login("ann", "password"))
	for _, w := range []struct {
		name     string
		script   []api.Step
		boots    int
		answers  int
		sessions int
	}{
		{"the sync of the login dies", []api.Step{arm(3, 0), crash(0), draw(1), enter}, 3, 0, 0},
		{"its append dies", []api.Step{arm(2, 0), crash(0), draw(1), enter}, 3, 0, 0},
		{"the next boot's first operation dies", []api.Step{arm(4, 0), crash(0), draw(1), enter, crash(0)}, 3, 1, 1},
		{"an arm waits at the end", []api.Step{arm(6, 0), crash(0), draw(1), enter, crash(0)}, 3, 1, 1},
		{"the second counts behind the first", []api.Step{arm(1, 0), arm(2, 0), draw(1), enter, draw(2), enter}, 3, 0, 0},
		{"the second dies in the boot", []api.Step{arm(1, 0), arm(1, 0), draw(1), enter, draw(2), enter}, 2, 1, 1},
		{"a torn tail is three operations", []api.Step{arm(0, 5), arm(3, 0), draw(1), enter, draw(2), enter}, 3, 0, 0},
		{"the cut of a torn tail dies", []api.Step{arm(0, size-1), arm(1, 0), draw(1), enter, draw(2), enter}, 2, 1, 1},
		{"the sync behind the cut dies, and leaves no tail", []api.Step{arm(0, size-1), arm(2, 0), arm(2, 0), draw(1), enter, draw(2), enter}, 3, 0, 0},
		{"a whole frame outlives all", []api.Step{arm(1, size), arm(0, 0), arm(1, 0), arm(0, 0), draw(1), enter}, 2, 0, 1},
		{"no operation, no death", []api.Step{arm(0, 0), bytesOn(0, home), bytesOn(0, login("ann", "no")), tick(1), draw(1), hangUp(0)}, 1, 2, 0},
	} {
		got := mustBeAsModel(t, c, w.script)
		if got.Boots != w.boots || len(got.Outs) != w.answers || len(got.State.Sessions) != w.sessions {
			t.Errorf("P20.9: %s: %d boots, %d answers, %d sessions; want %d, %d, %d", w.name, got.Boots, len(got.Outs), len(got.State.Sessions), w.boots, w.answers, w.sessions)
		}
	}
}

// deaths are the ways in which a machine comes to boot again.
func deaths() map[string][]api.Step {
	enter := bytesOn(15, login("ann", "password"))
	return map[string][]api.Step{
		"a crash":                          {crash(0)},
		"a crash, and arms that die in it": {arm(0, 0), arm(1, 7), crash(0)},
		"an append that dies":              {draw(90), arm(0, 3), enter},
		"a sync that dies":                 {draw(90), arm(1, 3), enter},
		"a sync and the boot that die":     {draw(90), arm(1, 1000), arm(0, 0), enter},
	}
}

// TestABootFreesConnections: those that were open, with half a request sent, and those that were shut.
func TestABootFreesConnections(t *testing.T) {
	for name, death := range deaths() {
		for conn := range 15 {
			shut := mustBeAsModel(t, config(), join([]api.Step{bytesOn(conn, "x\r\n\r\n"), bytesOn(conn, home)}, death, []api.Step{bytesOn(conn, home)}))
			if len(shut.Outs) != 2 || shut.Outs[0].Text != refusalText(400) || shut.Outs[1].Text != homeText {
				t.Errorf("P20.3: behind %s a connection that was shut: %+v", name, shut.Outs)
			}
			for _, cut := range []int{1, 9, 20, len(home) - 1} {
				half := mustBeAsModel(t, config(), join([]api.Step{bytesOn(conn, home[:cut])}, death, []api.Step{bytesOn(conn, home)}))
				if len(half.Outs) != 1 || half.Outs[0].Text != homeText {
					t.Errorf("P20.3: behind %s a connection with half a request: %+v", name, half.Outs)
				}
			}
		}
		lost := mustBeAsModel(t, config(), join([]api.Step{bytesOn(0, home[:16])}, death, []api.Step{bytesOn(0, home[16:])}))
		if len(lost.Outs) != 1 || lost.Outs[0].Text != refusalText(400) {
			t.Errorf("P20.3: behind %s what was sent ahead of it counts: %+v", name, lost.Outs)
		}
	}
}

// TestDrawsWaitAcrossABoot: all of them, but for those that a request amid which the power failed has taken.
func TestDrawsWaitAcrossABoot(t *testing.T) {
	enter := bytesOn(0, login("bob", "wp"))
	for name, death := range deaths() {
		taken := mustBeAsModel(t, config(), join(draws(1, 2, 3), death, []api.Step{enter, crash(0), enter, enter}))
		var sids []string
		for _, o := range taken.Outs {
			sid, _ := read(t, o.Text).sid()
			sids = append(sids, sid)
		}
		want := []string{id(1), id(2), id(3)}
		if strings.Contains(name, "dies") || strings.Contains(name, "boot that") {
			want = []string{id(2), id(3), id(90)} // the login that died has taken the first
		}
		if strings.Join(sids, " ") != strings.Join(want, " ") {
			t.Errorf("P20.3: behind %s the draws are %q, want %q", name, sids, want)
		}
	}
	var many []api.Step
	for n := range api.MaxDraws + 1 {
		many = append(many, api.Step{Kind: api.StepDraw, Data: counted(n)})
	}
	got := mustBeAsModel(t, config(), join(many, []api.Step{crash(0), draw(7)}, onConn(0, login("ann", "password"))))
	if sid, _ := read(t, got.Outs[0].Text).sid(); sid != idOf(counted(0)) {
		t.Errorf("P20.3: the first of %d draws is lost", len(many))
	}
}

// TestTheTimeGoesOn across boots.
func TestTheTimeGoesOn(t *testing.T) {
	for name, death := range deaths() {
		got := mustBeAsModel(t, config(), join([]api.Step{tick(5)}, death, []api.Step{tick(2)}))
		if got.Now != 7 || got.Boots != 2 {
			t.Errorf("P20.3: behind %s the time is %d, want 7", name, got.Now)
		}
	}
}

// TestWhatIsKeptOutlivesBoots: behind a boot the server answers as if there had been none.
func TestWhatIsKeptOutlivesBoots(t *testing.T) {
	sid := id(1)
	script := join(draws(1, 2, 3, 4), []api.Step{bytesOn(0, login("ann", "password")), crash(0), crash(5)},
		onConn(0, deciding(sid, question("offline_access"), "allow", "offline_access")), []api.Step{crash(0)},
		onConn(0, redeeming(id(2))), []api.Step{crash(0)}, onConn(0, introspecting(id(3)), getting("/", cookie(sid))))
	got := mustBeAsModel(t, config(), script)
	for i, holds := range []string{"sid=" + sid, "code=" + id(2), id(4), `"active":true`, "app may use: offline_access."} {
		if !strings.Contains(got.Outs[i].Text, holds) {
			t.Errorf("P20.3: the answer %d is %q, want in it %q", i, got.Outs[i].Text, holds)
		}
	}
}
