package renew_test

import (
	"math"
	"math/rand"
	"strings"
	"testing"

	"usher/api"
)

// shortSteps are the steps of which the short scripts are made: n is the number of the step.
func shortSteps() []func(v *life, n byte) {
	return []func(v *life, n byte){
		func(v *life, n byte) {
			v.wait(100+2*n, 101+2*n)
			v.step(renewing(20+int(n), web(), showing(v.newest())).at(int(n % 2)))
		},
		func(v *life, n byte) {
			v.wait(100+2*n, 101+2*n)
			v.step(renewing(9, web(), showing(v.newest(), "scope", "read")))
		},
		func(v *life, n byte) { v.step(renewing(20, web(), showing(v.oldest())).at(1)) },
		func(v *life, n byte) { v.step(renewing(5000, web(), showing(v.newest()))) },
		func(v *life, n byte) { v.step(renewing(20, svc(), showing(v.oldest()))) },
		func(v *life, n byte) { v.step(revoking(20, web(), v.newest()).at(1)) },
		func(v *life, n byte) { v.step(redeeming(20, web(), id(1))) },
		func(v *life, n byte) { v.others(withdrawal("web")...) },
		func(v *life, n byte) { v.others(refreshRecord(id(200+n), id(1), "web", 20, "read")) },
		func(v *life, n byte) { v.crash(0); v.open() },
		func(v *life, n byte) { v.arm(0, plenty) },
		func(v *life, n byte) { v.arm(1, 30) },
		func(v *life, n byte) { v.open() },
	}
}

// TestAllShortScripts takes all rows of four steps behind a code's tokens.
func TestAllShortScripts(t *testing.T) {
	steps := shortSteps()
	turned, burned := 0, 0
	for n := range len(steps) * len(steps) * len(steps) * len(steps) {
		v := newLife(t, config())
		v.others(codeRecord(id(1), "web", 5, "offline_access", "read"))
		v.wait(100, 101)
		v.step(redeeming(6, web(), id(1)))
		for i := range byte(4) {
			steps[n%len(steps)](v, i+1)
			n /= len(steps)
		}
		v.open()
		turned, burned = turned+len(v.turned), burned+len(v.burned)
	}
	if turned < 9000 || burned < 9000 {
		t.Errorf("%d refresh tokens were turned, %d families ended: too few to tell", turned, burned)
	}
}

// oneOf is one of these by chance.
func oneOf[T any](random *rand.Rand, list ...T) T { return list[random.Intn(len(list))] }

// people are the ways in which a client says who it is, the right ones first.
func people() [][]string {
	return [][]string{
		{web()}, {web(), "client_id", "web"}, {"", "client_id", "web", "client_secret", "pw"}, {"", "client_id", "app"}, {"", "client_id", "app"}, {svc()},
		{basicOf("web", "no")}, {"", "client_id", "web"}, {"Bearer x"}, {""}, {web(), "client_secret", "pw"}, {web(), "client_id", "app"}, {"", "client_id", "app", "client_id", "app"}, {"", "client_id", "app", "client_secret", "x"},
	}
}

// asFor is how the client of that name says who it is.
func asFor(client string) (string, []api.Pair) {
	switch client {
	case "web":
		return web(), nil
	case "svc":
		return svc(), nil
	}
	return "", pairs("client_id", client)
}

// drawnAsker is a way to say who one is: mostly that of this client.
func drawnAsker(random *rand.Rand, client string) (string, []api.Pair) {
	if random.Intn(6) > 0 {
		return asFor(client)
	}
	who := oneOf(random, people()...)
	return who[0], pairs(who[1:]...)
}

// drawnRefresh is a refresh token, mostly one that is not used.
func drawnRefresh(random *rand.Rand, v *life) string {
	if len(v.chain) == 0 || random.Intn(12) == 0 {
		return oneOf(random, "x", id(byte(random.Intn(250))))
	}
	state := v.store.State()
	for range random.Intn(12) {
		refresh := oneOf(random, v.chain...)
		if v.lives(state, 0, refresh) {
			return refresh
		}
	}
	return oneOf(random, v.chain...)
}

// drawnForm is the form for a refresh token, mostly as it must be.
func drawnForm(random *rand.Rand, refresh string) []api.Pair {
	form := showing(refresh)
	if random.Intn(3) == 0 {
		form = and(form, "scope", oneOf(random, "read", "read", "offline_access", "read offline_access", "write", "admin", "", " ", "read  write"))
	}
	if random.Intn(10) > 0 {
		return form
	}
	name := oneOf(random, form...).Name
	switch random.Intn(3) {
	case 0:
		return with(form, name)
	case 1:
		return append(form, oneOf(random, form...))
	}
	return with(form, name, oneOf(random, "", "x", "authorization_code", id(250)))
}

// drawnCall is any call; its time is now, or far from it.
func drawnCall(random *rand.Rand, v *life, now int) call {
	if random.Intn(12) == 0 {
		now = oneOf(random, -1, math.MinInt, math.MaxInt, api.MaxNow+1, api.MaxNow, max(0, now-40), now+200)
	}
	refresh := drawnRefresh(random, v)
	kept, found := v.store.Refresh(refresh)
	if !found {
		kept.Client = "web"
	}
	auth, who := drawnAsker(random, kept.Client)
	c := renewing(now, auth, append(who, drawnForm(random, refresh)...))
	switch random.Intn(16) {
	case 0:
		c = living(now, refresh)
	case 1:
		c = revoking(now, auth, refresh)
		c.params = append(c.params, who...)
	case 2:
		if list := v.store.State().Tokens; len(list) > 0 {
			c = revoking(now, auth, oneOf(random, list...).ID)
			c.params = append(c.params, who...)
		}
	}
	random.Shuffle(len(c.params), func(i, j int) { c.params[i], c.params[j] = c.params[j], c.params[i] })
	return c.at(random.Intn(2))
}

// drawnCode is a call for a token for some code.
func drawnCode(random *rand.Rand, v *life, now int) call {
	list := v.store.State().Codes
	if len(list) == 0 {
		return redeeming(now, web(), id(250))
	}
	code := oneOf(random, list...)
	if random.Intn(8) > 0 { // one that is not used, if there is one
		for _, c := range list {
			if !c.Used {
				code = c
			}
		}
	}
	auth, who := asFor(code.Client)
	c := redeeming(now, auth, code.ID)
	c.params = append(c.params, who...)
	return c.at(random.Intn(2))
}

// drawnOthers is what somebody else may want to write at that time, with the identifier of that byte.
func drawnOthers(random *rand.Rand, v *life, now int, fresh byte) []api.Record {
	client := oneOf(random, "web", "web", "app", "svc")
	code := id(250)
	if list := v.store.State().Codes; len(list) > 0 {
		code = oneOf(random, list...).ID
	}
	switch random.Intn(16) {
	case 0:
		return []api.Record{burnedRecord(code)}
	case 1:
		return withdrawal(client)
	case 2:
		return []api.Record{turnedRecord(drawnRefresh(random, v))}
	case 3:
		return []api.Record{refreshRecord(id(fresh), code, client, now, "read")}
	case 4:
		return []api.Record{turnedRecord(v.newest()), tokenRecord(id(fresh), code, client, now, "read"), refreshRecord(id(fresh+1), code, client, now, "read")}
	}
	return []api.Record{codeRecord(id(fresh), client, now, oneOf(random, []string{"offline_access", "read"}, []string{"offline_access"}, []string{"offline_access", "read", "write"})...)}
}

// A tally counts what was answered in all lives, so that it is seen that all of it was met.
type tally struct {
	reasons      map[string]int
	errs         map[error]int
	turned, ends int
	longest      int
}

func (y *tally) enter(got answer) {
	y.reasons[got.outcome.Error]++
	y.errs[got.err]++
}

func (y *tally) check(t *testing.T) {
	t.Helper()
	for _, reason := range []string{"invalid_client", "invalid_request", "invalid_grant", "unsupported_grant_type", "invalid_scope", "unauthorized_client"} {
		if y.reasons[reason] < 30 {
			t.Errorf("%s was answered %d times: too few to tell", reason, y.reasons[reason])
		}
	}
	for _, err := range []error{api.ErrDry, api.ErrTaken, api.ErrArg, api.ErrDead} {
		if y.errs[err] < 30 {
			t.Errorf("%v was answered %d times: too few to tell", err, y.errs[err])
		}
	}
	if y.turned < 2000 || y.ends < 400 || y.longest < 8 {
		t.Errorf("%d refresh tokens turned, at most %d in one life, %d families ended: too few to tell", y.turned, y.longest, y.ends)
	}
}

// longScript is 120 steps made by chance.
func longScript(t *testing.T, random *rand.Rand, y *tally) {
	t.Helper()
	c := config()
	c.CodeLife, c.TokenLife, c.RefreshLife = 1+random.Intn(60), 1+random.Intn(80), 1+random.Intn(120)
	v := newLife(t, c)
	now := random.Intn(10)
	for i, client := range []string{"web", "app"} {
		v.others(codeRecord(id(byte(251+2*i)), client, now, all...))
		v.others(redeemedRecord(id(byte(251+2*i))), refreshRecord(id(byte(252+2*i)), id(byte(251+2*i)), client, now, all...))
	}
	for n := range byte(120) {
		switch random.Intn(24) {
		case 0:
			v.crash(random.Intn(300) - 2)
			v.open()
		case 1:
			v.arm(random.Intn(8), random.Intn(300)-2)
		case 2, 3, 4, 5, 6, 7:
			v.wait(n, oneOf(random, 130+n, 130+n, 130+n, 130+n, n/2))
		case 8:
			now = max(0, now+random.Intn(25)-5)
		case 9, 10:
			v.others(drawnOthers(random, v, now, 120+n)...)
		case 11, 12, 13:
			v.step(drawnCode(random, v, now))
		default:
			y.enter(v.step(drawnCall(random, v, now)))
		}
		if v.isDead && random.Intn(3) > 0 {
			v.open()
		}
	}
	v.open()
	y.turned, y.ends, y.longest = y.turned+len(v.turned), y.ends+len(v.burned), max(y.longest, len(v.turned))
}

// TestLongScripts are made by chance, with all that may fail.
func TestLongScripts(t *testing.T) {
	random := rand.New(rand.NewSource(183))
	y := &tally{reasons: map[string]int{}, errs: map[error]int{}}
	for range 400 {
		longScript(t, random, y)
	}
	y.check(t)
}

// TestEveryCallEnds at any texts, numbers and lists, on a disk that is alive, full or dead.
func TestEveryCallEnds(t *testing.T) {
	random := rand.New(rand.NewSource(188))
	texts := []string{"", "app", "web", "pw", id(1), id(2), id(3), id(4), "\x00", "\xff", "é", " ", "authorization_code", "refresh_token", "read", "read write", verifier, address, strings.Repeat("s", 600), strings.Repeat("%", 100)}
	names := []string{"", "client_id", "client_secret", "grant_type", "refresh_token", "scope", "code", "token", "\xff"}
	auths := append(texts, "Basic", "Basic ", "Basic =", "basic d2Vi", "Basic d2ViOnB3 ", web(), web(), web(), web(), svc())
	times := []int{0, 5, 6, 1004, 1005, -1, math.MinInt, math.MaxInt, api.MaxNow, api.MaxNow + 1}
	first := newBench(t, config(), 1)
	for n := byte(0); n < 60; n += 3 {
		first.family(n+1, n+2, n+3, "web", 5, all...)
	}
	lies := look(first.disk)
	for _, spare := range []int{0, 250, plenty} {
		b := benchOn(t, config(), 1, lies, len(lies)+spare)
		for n := range 4000 {
			if n == 3000 {
				b.counts = false
				b.disk.Crash(0)
			}
			if random.Intn(5) == 0 && len(b.draws) < api.MaxDraws {
				b.push(byte(random.Intn(256)))
			}
			var params []api.Pair
			if random.Intn(2) == 0 {
				params = showing(id(byte(random.Intn(62))))
			}
			for range random.Intn(12) {
				params = append(params, api.Pair{Name: oneOf(random, names...), Value: oneOf(random, texts...)})
			}
			if random.Intn(2) == 0 {
				params = with(with(params, "client_secret"), "client_id")
			}
			now, auth := oneOf(random, times...), oneOf(random, auths...)
			got := b.play(renewing(now, auth, params))
			if got.err != nil && (got.outcome.Status != 0 || got.outcome.Error != "" || got.outcome.Members != nil || got.outcome.Challenge) {
				t.Fatalf("P18.8: beside an error stands %+v", got)
			}
			b.play(living(now, oneOf(random, texts...)))
		}
	}
}
