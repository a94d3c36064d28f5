package world_test

import (
	"math/rand"
	"strings"
	"testing"

	"usher/api"
)

// A guess is what is done about a password, and the status that is answered: w wrong, r right, b a boot, a number so many ticks.
func mustGuess(t *testing.T, c api.Config, what string, want ...int) {
	t.Helper()
	var script []api.Step
	for n, word := range strings.Fields(what) {
		script = append(script, api.Step{Kind: api.StepDraw, Data: counted(n)})
		switch word {
		case "w":
			script = append(script, bytesOn(0, login("ann", "guess"+decimal(n))))
		case "r":
			script = append(script, bytesOn(0, login("ann", "password")))
		case "bob":
			script = append(script, bytesOn(0, login("bob", "no")))
		case "nobody":
			script = append(script, bytesOn(0, login("nobody", "no")))
		case "b":
			script = append(script, crash(0))
		case "d": // a right password amid which the power fails
			script = append(script, arm(0, 0), bytesOn(0, login("ann", "password")))
		default:
			ticks := 0
			for _, digit := range word {
				ticks = ticks*10 + int(digit-'0')
			}
			script = append(script, tick(ticks))
		}
	}
	got := mustBeAsModel(t, c, script)
	var statuses []int
	for _, o := range got.Outs {
		statuses = append(statuses, read(t, o.Text).status)
	}
	if len(statuses) != len(want) {
		t.Fatalf("W14: %s: %d, want %d", what, statuses, want)
	}
	for i := range want {
		if statuses[i] != want[i] {
			t.Fatalf("W14: %s: %d, want %d", what, statuses, want)
		}
	}
	ledgerOf(t, c, script).checkAll()
}

// TestGuessing: W14; wrong passwords one behind the other, a right one between, a boot between, LockTime apart and less.
func TestGuessing(t *testing.T) {
	c := braked(3, 10)
	mustGuess(t, c, "w w w w r", 403, 403, 403, 429, 429)
	mustGuess(t, c, "w w r w w r", 403, 403, 303, 403, 403, 303)
	mustGuess(t, c, "w w w 9 r w 1 r", 403, 403, 403, 429, 429, 303)
	mustGuess(t, c, "w w w 10 w w w w", 403, 403, 403, 403, 403, 403, 429)
	mustGuess(t, c, "w 9 w 9 w r 9 r 1 r", 403, 403, 403, 429, 429, 303)
	mustGuess(t, c, "w 10 w 10 w 10 w 10 w r", 403, 403, 403, 403, 403, 303)
	mustGuess(t, c, "w w 10 w w w r", 403, 403, 403, 403, 403, 429)
	mustGuess(t, c, "w w w b w w w r b r", 403, 403, 403, 403, 403, 403, 429, 303)
	mustGuess(t, c, "w w d w w w r", 403, 403, 403, 403, 403, 429)
	mustGuess(t, c, "w w bob w bob r bob bob nobody nobody nobody nobody", 403, 403, 403, 403, 403, 429, 403, 429, 403, 403, 403, 403)
	mustGuess(t, c, "w w w 5 w w 5 w w w r", 403, 403, 403, 429, 429, 403, 403, 403, 429)
	for _, free := range []api.Config{braked(0, 10), braked(3, 0), braked(0, 0)} {
		mustGuess(t, free, "w w w w w w w w r", 403, 403, 403, 403, 403, 403, 403, 403, 303)
	}
	mustGuess(t, braked(1, 1), "w w r 1 w r 1 r", 403, 429, 429, 403, 429, 303)
	got := mustRun(t, textOf(c), append(onConn(0, login("ann", "a"), login("ann", "b"), login("ann", "c")), tick(4), bytesOn(0, login("ann", "password")))...)
	if r := read(t, got.Outs[3].Text); r.header.Get("Retry-After") != "6" || got.Disk != "" {
		t.Errorf("W14: locked for six ticks more: %q", got.Outs[3].Text)
	}
}

// TestGuessesByChance: W14; at times that lie close to one another, with right passwords, boots and dying ones between.
func TestGuessesByChance(t *testing.T) {
	t.Parallel()
	random := rand.New(rand.NewSource(209))
	braked429 := 0
	for range 150 {
		c := braked(random.Intn(4), random.Intn(8))
		if random.Intn(5) == 0 {
			c.DiskBytes = 200
		}
		var script []api.Step
		for n := range 40 {
			switch random.Intn(20) {
			case 0:
				script = append(script, crash(0))
			case 1:
				script = append(script, arm(random.Intn(3), random.Intn(100)))
			case 2, 3, 4, 5, 6:
				script = append(script, tick(random.Intn(5)))
			case 7:
				script = append(script, api.Step{Kind: api.StepDraw, Data: counted(n)})
			default:
				user := oneOf(random, "ann", "ann", "ann", "bob", "nobody")
				script = append(script, bytesOn(0, login(user, oneOf(random, "no", "no", "no", "no", "nope", passwords[user], "pass"))))
			}
		}
		l := ledgerOf(t, c, script)
		l.checkBrake()
		l.checkReasons()
		mustBeAsModel(t, c, script)
		for _, e := range l.tape {
			if e.status() == 429 {
				braked429++
			}
		}
	}
	if braked429 < 200 {
		t.Errorf("%d times braked: too few to tell", braked429)
	}
}
