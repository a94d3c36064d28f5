package world_test

import (
	"crypto/pbkdf2"
	"crypto/sha256"
	"math"
	"strings"
	"testing"

	"usher/api"
	"usher/registry"
	"usher/world"
)

// mustRefuse fails unless the call answers that error and the zero trace.
func mustRefuse(t *testing.T, what string, want error, text, data string, now int, script ...api.Step) {
	t.Helper()
	got, err := world.Resume(text, data, now, script)
	if err != want || want == nil {
		t.Errorf("P20.2: %s: %v, want %v", what, err, want)
	}
	if got.Outs != nil || !isSame(got, api.Trace{}) {
		t.Errorf("P20.2: %s: beside an error %+v, want the zero trace", what, got)
	}
}

// wrongTexts are texts that are no configurations, of each kind of refusal.
func wrongTexts() map[string]error {
	return map[string]error{
		"": api.ErrShort, "x": api.ErrText, "rounds 0\n": api.ErrArg, "rounds 1\nrounds 1\n": api.ErrTwice, strings.Repeat(" ", api.MaxConfig+1): api.ErrMany,
		exampleConfig + "client web public\n": api.ErrShort, exampleConfig + "user ann 00 00\n": api.ErrArg, exampleConfig + "\x00": api.ErrText,
	}
}

// TestWrongConfigurations: P20.2; the configuration's refusal goes ahead of all others.
func TestWrongConfigurations(t *testing.T) {
	for text, want := range wrongTexts() {
		if _, _, err := registry.Read(text); err != want {
			t.Fatalf("a test takes %.20q for %v, it is %v", text, want, err)
		}
		mustRefuse(t, "no configuration", want, text, "", 0)
		mustRefuse(t, "no configuration", want, text, "", 0, bytesOn(0, home), crash(0))
		mustRefuse(t, "no configuration and no time", want, text, "", -1)
		mustRefuse(t, "no configuration and no log", want, text, string(notPlayable()[0]), 5)
		got, err := world.Run(text, []api.Step{bytesOn(0, home)})
		if err != want || !isSame(got, api.Trace{}) {
			t.Errorf("P20.1: Run of no configuration: %+v, %v, want %v", got, err, want)
		}
	}
}

// notPlayable are sound frames that cannot be played: no transactions, or such as do not apply.
func notPlayable() [][]byte {
	session := frameOf(api.Record{Kind: api.RecSession, ID: id(1), User: "ann"}).data
	return [][]byte{
		{0, 0, 0, 1, 0xe5, 0x8c, 0x97, 0x92, 0x61}, // the frame of 61
		append(append([]byte{}, session...), session...),
		frameOf(api.Record{Kind: api.RecRedeemed, ID: id(1)}).data,
		frameOf(api.Record{Kind: api.RecSession, ID: id(1), User: "ann"}, api.Record{Kind: api.RecEnded, ID: id(2)}).data,
		frameOf(api.Record{Kind: api.RecWithdrawn, User: "ann", Client: "app"}).data,
		frameOf(api.Record{Kind: 12, ID: id(1)}).data,
	}
}

// TestTimes: P20.2; the time's refusal goes ahead of the log's.
func TestTimes(t *testing.T) {
	text := textOf(config())
	for _, now := range []int{-1, math.MinInt, api.MaxNow + 1, math.MaxInt} {
		mustRefuse(t, "a time that is none", api.ErrArg, text, "", now)
		mustRefuse(t, "a time that is none, and no log", api.ErrArg, text, string(notPlayable()[0]), now, tick(1))
	}
	for _, now := range []int{0, 1, 77, api.MaxNow - 1, api.MaxNow} {
		mustBeSame(t, "P20.2", mustResume(t, text, "", now), api.Trace{Now: now, Boots: 1})
		mustBeSame(t, "P20.5", mustResume(t, text, "", now, tick(1)), api.Trace{Now: min(now+1, api.MaxNow), Boots: 1})
	}
	got := mustResume(t, text, "", api.MaxNow, join(draws(1), onConn(0, login("ann", "password"), getting("/", cookie(id(1)))))...)
	if len(got.Outs) != 2 || !strings.Contains(got.Outs[1].Text, "logged in as ann.") || got.State.Sessions[0].At != api.MaxNow {
		t.Errorf("P20.2: at the last time: %+v", got)
	}
}

// TestTheRoom: P20.2; data of just so many bytes as the disk has room for, and of one more.
func TestTheRoom(t *testing.T) {
	log := mustRun(t, textOf(config()), steps(tour())...)
	c := config()
	c.DiskBytes = len(log.Disk)
	got := mustResume(t, textOf(c), log.Disk, 9, join(draws(40), onConn(0, login("ann", "password"), getting("/")))...)
	if got.Disk != log.Disk || !isSameState(got.State, log.State) || len(got.Outs) != 2 || !strings.HasPrefix(got.Outs[0].Text, "HTTP/1.1 503 ") {
		t.Errorf("P20.2: a disk that is just full: %+v", got)
	}
	mustRefuse(t, "one byte more than room", api.ErrArg, textOf(c), log.Disk+"x", 9)
	mustRefuse(t, "one byte more than room, and no log", api.ErrArg, textOf(c), string(notPlayable()[0])+strings.Repeat("x", len(log.Disk)), 9)
	c.DiskBytes--
	mustRefuse(t, "one byte more than room", api.ErrArg, textOf(c), log.Disk, 9)
	c.DiskBytes = 1
	mustBeSame(t, "P20.2: one byte that is no frame", mustResume(t, textOf(c), "x", 3), api.Trace{Now: 3, Boots: 1})
	mustRefuse(t, "two bytes on a disk for one", api.ErrArg, textOf(c), "xy", 3)
}

// TestNoLog: P20.3.
func TestNoLog(t *testing.T) {
	text := textOf(config())
	good := string(frameOf(api.Record{Kind: api.RecSession, ID: id(9), User: "bob", At: 3}).data)
	for i, data := range notPlayable() {
		for _, tail := range []string{"", "torn", good} {
			mustRefuse(t, "no log "+decimal(i), api.ErrLog, text, string(data)+tail, 0)
			mustRefuse(t, "no log "+decimal(i), api.ErrLog, text, good+string(data)+tail, api.MaxNow, bytesOn(0, home), arm(0, 0), crash(0))
		}
		// Behind what is torn no frame is looked at.
		mustBeSame(t, "P20.3", mustResume(t, text, "\x00"+string(data), 0), api.Trace{Boots: 1})
	}
}

// TestTornTails: of a log that is cut off anywhere, the frames that stand whole in it are kept, and nothing else lies on the disk.
func TestTornTails(t *testing.T) {
	m := modelOf(config(), steps(tour()))
	text, log := textOf(config()), string(m.disk.data)
	for cut := range len(log) + 1 {
		length, whole := 0, []modelFrame(nil)
		for _, f := range m.frames {
			if length+len(f.data) > cut {
				break
			}
			length += len(f.data)
			whole = append(whole, f)
		}
		want := resumedModel(config(), whole, 50).trace()
		mustBeSame(t, "P20.3", mustResume(t, text, log[:cut], 50), want)
		if cut%7 == 0 {
			mustBeSame(t, "P20.3", mustResume(t, text, log[:length]+strings.Repeat("\xff", cut-length)+"x", 50), want)
		}
	}
}

// TestAnotherConfiguration: a log outlives the users and clients of whom it speaks.
func TestAnotherConfiguration(t *testing.T) {
	acts := tour()[:14] // ann is logged in, with a consent, tokens and a refresh token
	m := modelOf(config(), steps(acts))
	c := config()
	c.Clients, c.Users = c.Clients[1:], c.Users[1:]
	sid := id(1)
	script := join(draws(50, 51, 52), onConn(0, getting("/", cookie(sid)), introspecting(id(3)), renewing(id(6)), authorize(sid, question("read")), login("ann", "password"), login("bob", "wp"), withdrawing(sid, "app"), introspecting(id(3)), logout(sid)))
	want := resumedModel(c, m.frames, m.now)
	for _, step := range script {
		want.do(step)
	}
	got := mustResume(t, textOf(c), string(m.disk.data), m.now, script...)
	mustBeSame(t, "P20.2", got, want.trace())
	for i, holds := range []string{"logged in as ann.", `"active":true`, "invalid_client", "invalid_client", "Wrong name or password.", "sid=" + id(50), "Location: /\r\n", `"active":false`, "Max-Age=0"} {
		if !strings.Contains(got.Outs[i].Text, holds) {
			t.Errorf("P20.2: the answer %d is %q, want in it %q", i, got.Outs[i].Text, holds)
		}
	}
}

// TestRunIsResume: P20.1.
func TestRunIsResume(t *testing.T) {
	for _, script := range [][]api.Step{nil, {}, steps(tour()), {crash(0), tick(3), bytesOn(0, "x")}} {
		got, err := world.Run(textOf(config()), script)
		if err != nil {
			t.Fatal(err)
		}
		mustBeSame(t, "P20.1", got, mustResume(t, textOf(config()), "", 0, script...))
	}
}

// TestTextsAlike: a configuration may be written in other ways: the run is the same.
func TestTextsAlike(t *testing.T) {
	script := steps(tour())
	text := textOf(config())
	want := mustRun(t, text, script...)
	lines := strings.SplitAfter(text, "\n")
	odd := "# usher\n\n" + strings.Join(lines[10:], "") + "   \n" + strings.Join(lines[:10], "#\xff\n")
	for _, other := range []string{odd, strings.ReplaceAll(text, " ", "   "), strings.TrimSuffix(text, "\n"), strings.Replace(text, "fails 0\nlock 0\n", "", 1)} {
		if other == text {
			t.Fatal("a test's text is the same")
		}
		mustBeSame(t, "W1", mustRun(t, other, script...), want)
	}
}

// TestRounds: passwords are stretched as often as the configuration says.
func TestRounds(t *testing.T) {
	c := config()
	c.Rounds = 7
	digest, err := pbkdf2.Key(sha256.New, "wp", []byte("b"), 7, 32)
	if err != nil {
		t.Fatal(err)
	}
	c.Users[1].Secret.Digest = string(digest)
	got := mustBeAsModel(t, c, join(draws(1, 2), onConn(0, login("ann", "password"), login("bob", "wp"))))
	if read(t, got.Outs[0].Text).status != 403 || read(t, got.Outs[1].Text).status != 303 {
		t.Errorf("W1: with seven rounds: %+v", got.Outs)
	}
}
