package grant_test

import (
	"math"
	"math/rand"
	"strings"
	"testing"

	"usher/api"
)

// last is the session that was begun last.
func (v *life) last() string {
	if len(v.sids) == 0 {
		return ""
	}
	return v.sids[len(v.sids)-1]
}

// shortSteps are the steps of which the short scripts are made: n is the number of the step.
func shortSteps() []func(v *life, n byte) {
	allow := func(v *life, n byte, boxes ...string) {
		v.wait(n)
		form := formed(v.last(), question(), "decision", "allow")
		for _, scope := range boxes {
			form = and(form, "grant:"+scope, "yes")
		}
		v.step(answering(6, v.last(), form).at(1))
	}
	return []func(v *life, n byte){
		func(v *life, n byte) { v.wait(n); v.step(login(5, "ann", "pw").at(int(n % 2))) },
		func(v *life, n byte) { v.wait(n); v.step(login(5, "bob", "wp")) },
		func(v *life, n byte) { v.step(login(5, "ann", "no")) },
		func(v *life, n byte) { allow(v, n, "read") },
		func(v *life, n byte) { allow(v, n, "read", "write") },
		func(v *life, n byte) { v.wait(n); v.step(ask(7, v.last(), with(asking(), "scope", "read"))) },
		func(v *life, n byte) { v.step(withdraw(8, v.last(), withdrawal(v.last(), "app"))) },
		func(v *life, n byte) { v.step(logout(9, v.last()).at(1)) },
		func(v *life, n byte) { v.crash(0); v.open() },
		func(v *life, n byte) { v.arm(0, plenty) },
		func(v *life, n byte) { v.arm(1, 30) },
		func(v *life, n byte) { v.open() },
	}
}

// TestAllShortScripts takes all rows of four steps behind a login.
func TestAllShortScripts(t *testing.T) {
	steps := shortSteps()
	codes := 0
	for n := range len(steps) * len(steps) * len(steps) * len(steps) {
		v := newLife(t, braked(2, 10))
		steps[0](v, 0)
		for i := range byte(4) {
			steps[n%len(steps)](v, i+1)
			n /= len(steps)
		}
		v.open()
		codes += len(v.store.State().Codes)
	}
	if codes < 5000 {
		t.Errorf("%d codes: too few to tell", codes)
	}
}

// oneOf is one of these by chance.
func oneOf[T any](random *rand.Rand, list ...T) T { return list[random.Intn(len(list))] }

// drawnParams is a request, mostly well-formed, with a form's ticket and decision and boxes behind it.
func drawnParams(random *rand.Rand, sid string) []api.Pair {
	params := with(asking(), "scope", oneOf(random, "read", "write", "write read", "read read"))
	if random.Intn(3) == 0 {
		params = webAsking(strings.Fields(oneOf(random, "read", "admin read", "admin", "grant:read"))...)
	} else if random.Intn(3) == 0 {
		params = with(params, "redirect_uri", oneOf(random, config().Clients[0].Redirects...))
	}
	if random.Intn(3) == 0 {
		params = with(params, "state", oneOf(random, "", "s2", " &", "\n")) // the last one is bad
	}
	if random.Intn(8) == 0 {
		f := oneOf(random, oneOf(random, rows()...).faults...)
		params = with(params, f.name, f.values...)
	}
	question, scopes, bad := wellFormed(config(), params)
	if bad == nil && random.Intn(8) > 0 {
		params = and(params, "ticket", ticketOf(sid, question))
	}
	params = and(params, "decision", oneOf(random, "allow", "allow", "allow", "allow", "allow", "deny", "x", ""))
	for _, scope := range append(scopes, "admin") {
		params = and(params, "grant:"+scope, oneOf(random, "yes", "yes", "yes", "no", ""))
	}
	random.Shuffle(len(params), func(i, j int) { params[i], params[j] = params[j], params[i] })
	return params
}

// drawnCall is any call; its time is now, or far from it.
func drawnCall(random *rand.Rand, v *life, now int) call {
	if random.Intn(30) == 0 {
		now = oneOf(random, -1, math.MinInt, math.MaxInt, api.MaxNow+1, now-20, now+200)
	}
	sid := v.last()
	if random.Intn(4) == 0 {
		sid = oneOf(random, append(v.sids, "", id(250))...)
	}
	user := oneOf(random, "ann", "ann", "bob", "carl")
	var c call
	switch random.Intn(16) {
	case 0, 1, 2:
		c = login(now, user, oneOf(random, passwords[user], passwords[user], "no"))
	case 3:
		c = login(now, user, "no")
	case 4:
		c = wait(now, user)
	case 5:
		c = oneOf(random, who(now, sid), given(now, sid), logout(now, sid))
	case 6, 7, 8, 9:
		c = answering(now, sid, drawnParams(random, sid))
	case 10, 11, 12, 13:
		c = ask(now, sid, drawnParams(random, sid))
	default:
		c = withdraw(now, sid, oneOf(random, withdrawal(sid, "app"), withdrawal(sid, "app"), withdrawal(sid, "web"), withdrawal(sid, "nobody"), pairs("client_id", "app")))
	}
	return c.at(random.Intn(2))
}

// TestLongScripts are made by chance, with all that may fail; what was answered is counted, so that it is seen that all of it was met.
func TestLongScripts(t *testing.T) {
	random := rand.New(rand.NewSource(1614))
	kinds, errs := map[int]int{}, map[error]int{}
	codes := map[string]int{}
	for range 400 {
		c := braked(random.Intn(4), random.Intn(12))
		c.SessionLife = 1 + random.Intn(150)
		v := newLife(t, c)
		now := random.Intn(10)
		for n := range byte(120) {
			switch random.Intn(24) {
			case 0:
				v.crash(random.Intn(300) - 2)
				v.open()
			case 1:
				v.arm(random.Intn(6), random.Intn(300)-2)
			case 2:
				v.open()
			case 3, 4, 5, 6, 7:
				v.wait(oneOf(random, n, n, n, n/2))
			case 8:
				now += random.Intn(30)
			default:
				call := drawnCall(random, v, now)
				got := v.step(call)
				kinds[got.verdict.Kind]++
				errs[got.err]++
				if got.verdict.Code != "" {
					codes[call.name]++
				}
				if v.isDead && random.Intn(3) > 0 {
					v.open()
				}
			}
		}
		v.open()
	}
	for kind := api.VerPage; kind <= api.VerDone; kind++ {
		if kinds[kind] < 300 {
			t.Errorf("verdicts of the kind %d came %d times: too few to tell", kind, kinds[kind])
		}
	}
	for _, err := range []error{api.ErrDenied, api.ErrMany, api.ErrDry, api.ErrTaken, api.ErrArg, api.ErrDead} {
		if errs[err] < 30 {
			t.Errorf("%v was answered %d times: too few to tell", err, errs[err])
		}
	}
	if codes["Ask"] < 200 || codes["Answer"] < 200 {
		t.Errorf("%v codes: too few to tell", codes)
	}
}

// TestEveryCallEnds at any texts, numbers and lists, on a disk that is alive, full or dead.
func TestEveryCallEnds(t *testing.T) {
	random := rand.New(rand.NewSource(161))
	texts := []string{"", "ann", "app", "pw", id(1), id(2), "\x00", "\xff", "é", " ", "code", "S256", challenge, address, "read", "allow", "yes", strings.Repeat("s", 600), ticketOf(id(1), question())}
	names := []string{"", "client_id", "redirect_uri", "response_type", "scope", "state", "code_challenge", "code_challenge_method", "ticket", "decision", "grant:read", "grant:", "\xff"}
	for _, room := range []int{0, 61, plenty} {
		b := benchOn(t, braked(2, 10), 1, nil, room)
		b.push(draw(1))
		b.play(login(5, "ann", "pw"))
		for n := range 4000 {
			if n == 3000 {
				b.counts = false
				b.disk.Crash(0)
			}
			if random.Intn(5) == 0 && len(b.draws) < api.MaxDraws {
				b.push(draw(byte(random.Intn(256))))
			}
			now := oneOf(random, 0, 5, 6, -1, math.MinInt, math.MaxInt, api.MaxNow, api.MaxNow+1)
			var params []api.Pair
			for range random.Intn(20) {
				params = append(params, api.Pair{Name: oneOf(random, names...), Value: oneOf(random, texts...)})
			}
			sid := oneOf(random, append(texts, id(1), id(1))...)
			for _, c := range []call{
				login(now, oneOf(random, texts...), oneOf(random, texts...)), wait(now, oneOf(random, texts...)), who(now, sid), given(now, sid),
				ask(now, sid, params), answering(now, sid, params), withdraw(now, sid, params),
			} {
				b.play(c)
			}
		}
		b.play(logout(6, id(1)))
	}
}
