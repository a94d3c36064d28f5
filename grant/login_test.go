package grant_test

import (
	"math"
	"testing"

	"usher/api"
	"usher/disk"
)

func TestNamesThatNobodyHas(t *testing.T) {
	b := newBench(t, config(), 1)
	b.push(draw(0))
	for _, name := range []string{"", "carl", "Ann", "ANN", "an", "anna", "ann ", " ann", "ann\x00", "app", "ann,bob", id(0)} {
		for _, pass := range []string{"", "pw", "wp", name} {
			b.must(refusal(api.ErrDenied), login(5, name, pass))
		}
	}
}

func TestWrongPasswords(t *testing.T) {
	b := newBench(t, config(), 1)
	b.push(draw(0))
	for _, pass := range []string{"", "p", "PW", "Pw", "pw ", " pw", "pwpw", "wp", "ann", "salt", config().Users[0].Secret.Digest} {
		b.must(refusal(api.ErrDenied), login(5, "ann", pass))
	}
	b.must(refusal(api.ErrDenied), login(5, "bob", "pw"))
}

// TestRightPasswords: the session is the store's, of this user, from this time on, and nothing else has changed.
func TestRightPasswords(t *testing.T) {
	for _, now := range []int{0, 1, 5, 1 << 20, api.MaxNow - 1, api.MaxNow} {
		for user, pass := range passwords {
			b := newBench(t, config(), 1)
			b.push(draw(7), draw(8))
			b.must(answer{text: id(7)}, login(now, user, pass))
			b.mustHold(nil, []api.Record{sessionRecord(id(7), user, now)})
			if got, ok := b.store.Session(id(7)); !ok || got != (api.Session{ID: id(7), User: user, At: now}) {
				t.Errorf("P16.2: the store has %+v, %v", got, ok)
			}
			b.must(answer{text: user, ok: true}, who(now, id(7)))
		}
	}
}

// TestEveryLoginIsASession of its own, and each takes the next draw.
func TestEveryLoginIsASession(t *testing.T) {
	b := newBench(t, config(), 2)
	b.push(draw(9), draw(3), draw(5))
	b.must(answer{text: id(9)}, login(1, "ann", "pw"))
	b.must(answer{text: id(3)}, login(1, "ann", "pw").at(1))
	b.must(answer{text: id(5)}, login(2, "bob", "wp"))
	b.must(refusal(api.ErrDry), login(2, "bob", "wp"))
	for desk := range 2 {
		b.must(answer{text: "ann", ok: true}, who(2, id(9)).at(desk))
		b.must(answer{text: "ann", ok: true}, who(2, id(3)).at(desk))
		b.must(answer{text: "bob", ok: true}, who(2, id(5)).at(desk))
	}
}

// TestRounds: a password counts by the configuration's number of rounds.
func TestRounds(t *testing.T) {
	for _, rounds := range []int{1, 2, 3, 1000} {
		c := config()
		c.Rounds = rounds
		c.Users[0].Secret = sealed("pw", "salt", rounds)
		b := newBench(t, c, 1)
		b.beginAs("ann", 5, 1)
		b.push(draw(2))
		if rounds == 1 {
			b.must(answer{text: id(2)}, login(5, "bob", "wp"))
			continue
		}
		b.passwords = map[string]string{"ann": "pw", "bob": "none: the secret is of one round"}
		b.must(refusal(api.ErrDenied), login(5, "bob", "wp"))
	}
}

// knowing is a bench whose store has a session, an ended one, a code, a token and a refresh token, by the draws 1 to 5.
func knowing(t *testing.T) *bench {
	b := newBench(t, config(), 1)
	b.commit(sessionRecord(id(1), "ann", 5), sessionRecord(id(2), "bob", 5), api.Record{Kind: api.RecEnded, ID: id(2)})
	b.commit(codeRecord(id(3), "ann", "web", 5, "read"), api.Record{Kind: api.RecRedeemed, ID: id(3)},
		api.Record{Kind: api.RecToken, ID: id(4), User: "ann", Client: "web", Code: id(3), Scopes: []string{"read"}, At: 5},
		api.Record{Kind: api.RecRefresh, ID: id(5), User: "ann", Client: "web", Code: id(3), Scopes: []string{"read"}, At: 5})
	return b
}

func TestDrawsOfALogin(t *testing.T) {
	b := knowing(t)
	b.must(refusal(api.ErrDry), login(5, "ann", "pw"))
	for known := byte(1); known <= 5; known++ {
		b.push(draw(known))
		b.must(refusal(api.ErrTaken), login(5, "ann", "pw"))
		b.must(refusal(api.ErrDry), login(5, "ann", "pw"))
	}
	b.push(draw(1), draw(6), draw(6))
	b.must(refusal(api.ErrTaken), login(5, "ann", "pw"))
	b.must(answer{text: id(6)}, login(5, "ann", "pw"))
	b.must(refusal(api.ErrTaken), login(5, "bob", "wp"))
}

// TestNoDrawIsTaken where there is no right password, or where it is not looked at.
func TestNoDrawIsTaken(t *testing.T) {
	b := newBench(t, braked(1, 10), 1)
	b.push(draw(1))
	b.must(refusal(api.ErrDenied), login(5, "carl", "pw"))
	b.must(refusal(api.ErrDenied), login(5, "ann", "no"))
	b.must(refusal(api.ErrMany), login(5, "ann", "pw"))
	b.must(answer{text: id(1)}, login(15, "ann", "pw"))
}

// TestTimesThatCannotBeKept: the draw is used up.
func TestTimesThatCannotBeKept(t *testing.T) {
	b := newBench(t, config(), 1)
	for _, now := range []int{-1, -2, math.MinInt, math.MinInt + 1, api.MaxNow + 1, 1 << 41, math.MaxInt} {
		b.push(draw(1))
		b.must(refusal(api.ErrArg), login(now, "ann", "pw"))
		b.must(refusal(api.ErrDry), login(now, "ann", "pw"))
		b.must(refusal(api.ErrDenied), login(now, "ann", "no"))
	}
	b.mustHold(nil)
	b = knowing(t)
	b.push(draw(1)) // that it is known is told ahead of what may not be written
	b.must(refusal(api.ErrTaken), login(-1, "ann", "pw"))
}

// TestLoginOnAFullDisk: the draw is used up, and nothing has changed.
func TestLoginOnAFullDisk(t *testing.T) {
	size := len(frame([]api.Record{sessionRecord(id(1), "ann", 5)}))
	for room := range size + 2 {
		b := benchOn(t, config(), 1, nil, room)
		b.push(draw(1), draw(2))
		if room >= size {
			b.must(answer{text: id(1)}, login(5, "ann", "pw"))
			continue
		}
		b.must(refusal(api.ErrFull), login(5, "ann", "pw"))
		b.must(nobody, who(5, id(1)))
		b.must(refusal(api.ErrFull), login(5, "ann", "pw"))
		b.must(refusal(api.ErrDry), login(5, "ann", "pw"))
	}
}

// dying plays a call amid which the power fails, in each operation of its Commit and with each number of bytes kept: behind it the transaction is there whole or not at all.
func dying(t *testing.T, begun func() *bench, c call, tx ...api.Record) {
	t.Helper()
	f := frame(tx)
	for operation := range 2 {
		for keep := -1; keep <= len(f)+1; keep++ {
			b := begun()
			lies := look(b.disk)
			left := len(b.draws)
			b.counts = false
			b.disk.Arm(operation, keep)
			b.must(refusal(api.ErrDead), c)
			if tx[0].Kind != api.RecEnded && tx[0].Kind != api.RecWithdrawn && len(b.draws) != left-1 {
				t.Fatalf("P16.9: %d draws are left of %d", len(b.draws), left)
			}
			before := b.store.State()
			b.disk.Revive()
			b.push(draw(200))
			b.must(refusal(api.ErrDead), c) // the store must be opened anew
			b.boot()
			if keep < len(f) {
				b.mustHold(lies)
				if !isSameState(b.store.State(), before) {
					t.Fatalf("P16.13: %+v became %+v", before, b.store.State())
				}
			} else {
				b.mustHold(lies, tx)
			}
		}
	}
}

func TestLoginThatDies(t *testing.T) {
	dying(t, func() *bench {
		b := newBench(t, config(), 1)
		b.begin(1)
		b.push(draw(2))
		return b
	}, login(6, "bob", "wp"), sessionRecord(id(2), "bob", 6))
}

// TestLoginOnADeadDisk: every draw is used up, and no session is there.
func TestLoginOnADeadDisk(t *testing.T) {
	b := newBench(t, config(), 1)
	b.counts = false
	b.disk.Crash(0)
	b.push(draw(1), draw(2))
	b.must(refusal(api.ErrDead), login(5, "ann", "pw"))
	b.must(nobody, who(5, id(1)))
	b.must(refusal(api.ErrDenied), login(5, "ann", "no"))
	b.disk.Revive()
	b.must(refusal(api.ErrDead), login(5, "ann", "pw"))
	b.must(refusal(api.ErrDry), login(5, "ann", "pw"))
	b.boot()
	b.mustHold(nil)
}

// TestADeskOverAStoreThatWasThere sees what lies there.
func TestADeskOverAStoreThatWasThere(t *testing.T) {
	first := newBench(t, config(), 1)
	sid := first.begin(1)
	b := benchOn(t, config(), 1, look(first.disk), plenty)
	b.must(answer{text: "ann", ok: true}, who(5, sid))
	b.push(draw(1))
	b.must(refusal(api.ErrTaken), login(5, "ann", "pw"))
	b.disk = disk.Open(nil, plenty)
	b.boot()
	b.must(nobody, who(5, sid))
}
