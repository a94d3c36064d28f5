package grant_test

import (
	"math"
	"math/rand"
	"testing"

	"usher/api"
)

// A try is a Login at a time, what it answers, and how long the user must wait behind it, at that time.
type try struct {
	now  int
	pass string
	err  error
	wait int
}

func (b *bench) mustTry(user string, tries ...try) {
	b.t.Helper()
	for _, s := range tries {
		b.must(refusal(s.err), login(s.now, user, s.pass))
		b.must(answer{wait: s.wait}, wait(s.now, user))
	}
}

// With no draw the right password is answered by ErrDry: it is let through all the same.
const right, wrong = "pw", "no"

var (
	through = api.ErrDry
	denied  = api.ErrDenied
	locked  = api.ErrMany
)

// TestBothSidesOfALock: its last tick, and the one behind it.
func TestBothSidesOfALock(t *testing.T) {
	for _, fails := range []int{1, 2, 3, 1000} {
		for _, lock := range []int{1, 2, 10, api.MaxLife} {
			b := newBench(t, braked(fails, lock), 1)
			for range fails - 1 {
				b.mustTry("ann", try{50, wrong, denied, 0})
			}
			b.mustTry("ann", try{50, wrong, denied, lock}, try{50, right, locked, lock}, try{50, wrong, locked, lock},
				try{50 + lock - 1, right, locked, 1}, try{50 + lock - 1, wrong, locked, 1})
			b.must(answer{wait: 0}, wait(50+lock, "ann"))
			b.must(answer{wait: 0}, wait(51+lock, "ann"))
			b.mustTry("ann", try{50 + lock, right, through, 0}, try{50, right, through, 0}, try{50 + lock - 1, right, through, 0})
		}
	}
}

// TestTheCountBeginsAnew behind a lock: one wrong password more does not lock, if it takes two.
func TestTheCountBeginsAnew(t *testing.T) {
	b := newBench(t, braked(2, 10), 1)
	b.mustTry("ann", try{5, wrong, denied, 0}, try{6, wrong, denied, 10}, try{16, wrong, denied, 0}, try{17, wrong, denied, 10}, try{27, wrong, denied, 0}, try{27, right, through, 0})
	b = newBench(t, braked(1, 10), 1)
	b.mustTry("ann", try{5, wrong, denied, 10}, try{14, wrong, locked, 1}, try{15, wrong, denied, 10}, try{24, right, locked, 1}, try{25, right, through, 0})
}

// TestSlowGuessesAreNotCounted together: just LockTime apart they are not, one tick less they are.
func TestSlowGuessesAreNotCounted(t *testing.T) {
	b := newBench(t, braked(3, 10), 1)
	for now := 0; now < 1000; now += 10 {
		b.mustTry("ann", try{now, wrong, denied, 0})
	}
	b.mustTry("ann", try{999, wrong, denied, 0}, try{1008, wrong, denied, 10})
	b = newBench(t, braked(3, 10), 1)
	b.mustTry("ann", try{0, wrong, denied, 0}, try{9, wrong, denied, 0}, try{18, wrong, denied, 10}, try{27, right, locked, 1}, try{28, right, through, 0})
}

// TestRightPasswordLetsTheBrakeGo, whatever comes behind it.
func TestRightPasswordLetsTheBrakeGo(t *testing.T) {
	for _, reason := range []error{nil, api.ErrDry, api.ErrTaken, api.ErrArg, api.ErrFull, api.ErrDead} {
		room, now := plenty, 6
		if reason == api.ErrFull {
			room = 10
		}
		b := benchOn(t, braked(3, 10), 1, nil, room)
		b.counts = false
		if reason != api.ErrDry {
			b.push(draw(1))
		}
		switch reason {
		case api.ErrTaken:
			b.commit(sessionRecord(id(1), "bob", 5))
		case api.ErrArg:
			now = -1
		case api.ErrDead:
			b.disk.Arm(1, 0)
		}
		b.mustTry("ann", try{5, wrong, denied, 0}, try{5, wrong, denied, 0})
		if got := b.play(login(now, "ann", right)); got.err != reason {
			t.Fatalf("P16.2: %v, want %v", got.err, reason)
		}
		b.mustTry("ann", try{6, wrong, denied, 0}, try{6, wrong, denied, 0}, try{6, wrong, denied, 10}, try{15, wrong, locked, 1})
	}
}

// TestALockedUserIsNotCounted: to be refused makes no lock longer, and right ones do not end it.
func TestALockedUserIsNotCounted(t *testing.T) {
	b := newBench(t, braked(2, 10), 1)
	b.mustTry("ann", try{5, wrong, denied, 0}, try{5, wrong, denied, 10})
	for now := 5; now < 15; now++ {
		b.mustTry("ann", try{now, wrong, locked, 15 - now}, try{now, right, locked, 15 - now})
	}
	b.mustTry("ann", try{15, wrong, denied, 0}, try{15, right, through, 0})
}

// TestTimesThatGoBack: the last wrong password may lie in what is to come.
func TestTimesThatGoBack(t *testing.T) {
	b := newBench(t, braked(2, 10), 1)
	b.mustTry("ann", try{100, wrong, denied, 0}, try{50, wrong, denied, 10}, try{59, right, locked, 1}, try{20, right, locked, 40}, try{0, right, locked, 60}, try{-7, wrong, locked, 60}, try{math.MinInt, right, locked, 60}, try{60, right, through, 0})
	b.mustTry("ann", try{30, wrong, denied, 0}, try{60, wrong, denied, 0}, try{30, wrong, denied, 10}, try{40, right, through, 0})
}

// TestTimesBeyondTheEnds count as the nearest one within.
func TestTimesBeyondTheEnds(t *testing.T) {
	const last = api.MaxNow
	for _, below := range []int{-1, -5, -1 << 41, math.MinInt} {
		b := newBench(t, braked(2, 10), 1)
		b.mustTry("ann", try{below, wrong, denied, 0}, try{below, wrong, denied, 10}, try{0, right, locked, 10}, try{-1, right, locked, 10}, try{9, right, locked, 1}, try{10, right, through, 0})
		b.mustTry("ann", try{9, wrong, denied, 0}, try{below, wrong, denied, 10})
	}
	for _, above := range []int{last + 1, last + 10, 1 << 41, math.MaxInt} {
		b := newBench(t, braked(2, 10), 1)
		b.mustTry("ann", try{last, wrong, denied, 0}, try{above, wrong, denied, 10}, try{above, right, locked, 10}, try{math.MaxInt, right, locked, 10}, try{last, right, locked, 10}, try{last - 1, right, locked, 11}, try{0, right, locked, last + 10}, try{math.MinInt, right, locked, last + 10})
		b = newBench(t, braked(2, 10), 1)
		b.mustTry("ann", try{last - 10, wrong, denied, 0}, try{above, wrong, denied, 0}, try{last - 9, wrong, denied, 10})
	}
	b := newBench(t, braked(1, api.MaxLife), 1)
	b.mustTry("ann", try{math.MaxInt, wrong, denied, api.MaxLife}, try{math.MinInt, wrong, locked, api.MaxNow + api.MaxLife}, try{math.MaxInt, wrong, locked, api.MaxLife})
}

// TestNoBrake: with Fails or LockTime 0 nobody is ever locked.
func TestNoBrake(t *testing.T) {
	for _, c := range []api.Config{braked(0, 0), braked(0, 10), braked(0, api.MaxLife), braked(1, 0), braked(1000, 0)} {
		b := newBench(t, c, 1)
		for i := range 1100 {
			b.mustTry("ann", try{5 - i%3, wrong, denied, 0})
		}
		b.mustTry("ann", try{5, right, through, 0})
	}
}

// TestNobodysNamesAreNotCounted, though they be as often guessed.
func TestNobodysNamesAreNotCounted(t *testing.T) {
	b := newBench(t, braked(1, 10), 1)
	for range 5 {
		for _, name := range []string{"carl", "", "Ann", "app"} {
			b.mustTry(name, try{5, wrong, denied, 0}, try{5, right, denied, 0})
		}
	}
	b.mustTry("ann", try{5, right, through, 0})
	b.mustTry("bob", try{5, "wp", through, 0})
}

// TestEachTheirOwnBrake: one user's guesses say nothing of another's.
func TestEachTheirOwnBrake(t *testing.T) {
	b := newBench(t, braked(2, 10), 1)
	b.mustTry("ann", try{5, wrong, denied, 0}, try{5, wrong, denied, 10})
	b.mustTry("bob", try{5, wrong, denied, 0}, try{5, "wp", through, 0}, try{6, wrong, denied, 0}, try{7, wrong, denied, 10})
	b.must(answer{wait: 8}, wait(7, "ann"))
	b.mustTry("ann", try{15, right, through, 0})
	b.mustTry("bob", try{15, "wp", locked, 2}, try{17, "wp", through, 0})
}

// TestEachDeskItsOwnBrake, over one store; and a new Desk begins at 0.
func TestEachDeskItsOwnBrake(t *testing.T) {
	b := newBench(t, braked(2, 10), 2)
	b.mustTry("ann", try{5, wrong, denied, 0}, try{5, wrong, denied, 10})
	b.must(answer{wait: 0}, wait(5, "ann").at(1))
	b.must(refusal(denied), login(5, "ann", wrong).at(1))
	b.must(answer{wait: 0}, wait(5, "ann").at(1))
	b.must(refusal(through), login(5, "ann", right).at(1))
	b.must(refusal(denied), login(6, "ann", wrong).at(1))
	b.must(refusal(denied), login(6, "ann", wrong).at(1))
	b.must(answer{wait: 10}, wait(6, "ann").at(1))
	b.must(answer{wait: 9}, wait(6, "ann"))
	b.boot()
	b.must(answer{wait: 0}, wait(6, "ann"))
	b.must(refusal(through), login(6, "ann", right))
	b.mustTry("ann", try{6, wrong, denied, 0}, try{6, wrong, denied, 10})
}

// TestAskingIsNoGuess: neither Wait nor any other call but Login touches the brake.
func TestAskingIsNoGuess(t *testing.T) {
	b := newBench(t, braked(2, 10), 1)
	sid := b.begin(1)
	b.mustTry("ann", try{5, wrong, denied, 0})
	for range 3 {
		b.play(wait(6, "ann"))
		b.play(who(6, sid))
		b.play(ask(6, sid, asking()))
		b.play(answering(6, sid, asking()))
		b.play(withdraw(6, sid, pairs("client_id", "app", "ticket", "x")))
		b.play(given(6, sid))
	}
	b.must(answer{}, logout(6, sid))
	b.mustTry("ann", try{6, wrong, denied, 10})
}

// isSlow: is there, among any fails + 1 of these times one behind the other, one that lies lockTime or more behind the one ahead of it?
func isSlow(times []int, fails, lockTime int) bool {
	near := 0 // how many gaps of less than lockTime stand behind one another
	for i := 1; i < len(times); i++ {
		if times[i]-times[i-1] < lockTime {
			near++
		} else {
			near = 0
		}
		if near >= fails {
			return false
		}
	}
	return true
}

// TestAllShortGuessing takes all rows of four Logins at times around the lock's, with a right password or a wrong one.
func TestAllShortGuessing(t *testing.T) {
	times := []int{-3, 0, 9, 10, 11, 20}
	for _, c := range []api.Config{braked(1, 10), braked(2, 10), braked(3, 10), braked(2, 1)} {
		for n := range 12 * 12 * 12 * 12 {
			b := newBench(t, c, 1)
			var denials []int
			for range 4 {
				now, pass := times[n%6], []string{right, wrong}[n/6%2]
				n /= 12
				held := b.play(wait(now, "ann")).wait > 0
				switch got := b.play(login(now, "ann", pass)); {
				case held != (got.err == locked):
					t.Fatalf("P16.14: Wait is above 0: %v, and Login answers %v", held, got.err)
				case got.err == through:
					denials = nil
				case got.err == denied:
					denials = append(denials, max(now, 0))
				}
			}
			if !isSlow(denials, c.Fails, c.LockTime) {
				t.Fatalf("P16.14: with Fails %d and LockTime %d, wrong passwords are denied at %d", c.Fails, c.LockTime, denials)
			}
		}
	}
}

// TestLongGuessing is made by chance, of two users at two Desks.
func TestLongGuessing(t *testing.T) {
	random := rand.New(rand.NewSource(16))
	met := map[error]int{}
	for range 300 {
		c := braked(1+random.Intn(4), 1+random.Intn(20))
		b := newBench(t, c, 2)
		type guesser struct {
			user string
			desk int
		}
		denials := map[guesser][]int{}
		for range 100 {
			user := []string{"ann", "bob"}[random.Intn(2)]
			key := guesser{user, random.Intn(2)}
			now := random.Intn(60)
			if random.Intn(10) == 0 {
				now += api.MaxNow - 30
			}
			pass := wrong
			if random.Intn(8) == 0 {
				pass = passwords[user]
			}
			got := b.play(call{name: "Login", desk: key.desk, now: now, user: user, pass: pass})
			met[got.err]++
			switch got.err {
			case through:
				denials[key] = nil
			case denied:
				denials[key] = append(denials[key], onTime(now))
			}
			if !isSlow(denials[key], c.Fails, c.LockTime) {
				t.Fatalf("P16.14: with Fails %d and LockTime %d, wrong passwords are denied at %d", c.Fails, c.LockTime, denials[key])
			}
			b.play(wait(random.Intn(60), user).at(key.desk))
		}
	}
	if met[denied] < 1000 || met[locked] < 1000 || met[through] < 300 {
		t.Errorf("denied %d, locked %d, let through %d: too few to tell", met[denied], met[locked], met[through])
	}
}
