package token_test

import (
	"math"
	"math/rand"
	"strings"
	"testing"

	"usher/api"
)

// lastToken is the greatest token that the store has; some other text, if it has none.
func (v *life) lastToken() string {
	if list := v.store.State().Tokens; len(list) > 0 {
		return list[len(list)-1].ID
	}
	return "x"
}

// lastRefresh is the greatest refresh token that the store has; some other text, if it has none.
func (v *life) lastRefresh() string {
	if list := v.store.State().Refreshes; len(list) > 0 {
		return list[len(list)-1].ID
	}
	return "x"
}

// shortSteps are the steps of which the short scripts are made: n is the number of the step.
func shortSteps() []func(v *life, n byte) {
	web := basic("web")
	return []func(v *life, n byte){
		func(v *life, n byte) { v.wait(100+2*n, 101+2*n); v.step(redeem(14, web, asking(1)).at(int(n % 2))) },
		func(v *life, n byte) { v.step(redeem(15, web, asking(1)).at(1)) },
		func(v *life, n byte) { v.step(redeem(14, basic("svc"), asking(1))) },
		func(v *life, n byte) { v.step(revoke(16, web, pairs("token", v.lastToken())).at(1)) },
		func(v *life, n byte) { v.step(revoke(16, web, pairs("token", v.lastRefresh()))) },
		func(v *life, n byte) { v.others(tokenRecord(id(200+n), id(1), "web", 16, "read")) },
		func(v *life, n byte) { v.others(withdrawal()...) },
		func(v *life, n byte) { v.crash(0); v.open() },
		func(v *life, n byte) { v.arm(0, plenty) },
		func(v *life, n byte) { v.arm(1, 30) },
		func(v *life, n byte) { v.open() },
	}
}

// withdrawal is how ann takes back what she has allowed web.
func withdrawal() []api.Record {
	return []api.Record{{Kind: api.RecConsent, User: "ann", Client: "web", Scopes: []string{"read"}, At: 5}, {Kind: api.RecWithdrawn, User: "ann", Client: "web"}}
}

// TestAllShortScripts takes all rows of four steps behind a code, and all of four behind its token.
func TestAllShortScripts(t *testing.T) {
	steps := shortSteps()
	turned, burned, ended := 0, 0, 0
	for n := range 2 * len(steps) * len(steps) * len(steps) * len(steps) {
		v := newLife(t, config())
		v.others(codeRecord(id(1), "web", 5, "offline_access", "read"))
		if n%2 == 1 {
			steps[0](v, 0)
		}
		n /= 2
		for i := range byte(4) {
			steps[n%len(steps)](v, i+1)
			n /= len(steps)
		}
		v.open()
		turned, burned, ended = turned+len(v.told), burned+len(v.burned), ended+len(v.ended)
	}
	if turned < 10000 || burned < 5000 || ended < 3000 {
		t.Errorf("%d codes were turned, %d burned, %d tokens ended: too few to tell", turned, burned, ended)
	}
}

// oneOf is one of these by chance.
func oneOf[T any](random *rand.Rand, list ...T) T { return list[random.Intn(len(list))] }

// people are the ways in which a client says who it is, the right ones first.
func people() [][]string {
	return [][]string{
		{basic("web")}, {basic("web"), "client_id", "web"}, {"", "client_id", "web", "client_secret", "pw"}, {"", "client_id", "app"}, {"", "client_id", "app"}, {basic("svc")},
		{basicOf("web", "no")}, {"", "client_id", "web"}, {"Bearer x"}, {""}, {basic("web"), "client_secret", "pw"}, {basic("web"), "client_id", "app"}, {"", "client_id", "app", "client_id", "app"}, {"", "client_id", "app", "client_secret", "x"},
	}
}

// drawnAsker is a way to say who one is, mostly a right one.
func drawnAsker(random *rand.Rand) (string, []api.Pair) {
	list := people()
	who := oneOf(random, list[:6]...)
	if random.Intn(10) == 0 {
		who = oneOf(random, list...)
	}
	return who[0], pairs(who[1:]...)
}

// drawnCode is the form for a code that may be there, mostly as it must be.
func drawnCode(random *rand.Rand, v *life) []api.Pair {
	form := asking(byte(random.Intn(20)))
	if list := v.store.State().Codes; len(list) > 0 {
		form = with(form, "code", oneOf(random, list...).ID)
	}
	if random.Intn(8) > 0 {
		return form
	}
	name := oneOf(random, form...).Name
	switch random.Intn(4) {
	case 0:
		return with(form, name)
	case 1:
		return append(form, oneOf(random, form...))
	}
	return with(form, name, oneOf(random, "", "x", "refresh_token", id(250), address+"/", strings.Repeat("w", 43)))
}

// drawnID is an identifier, mostly of what is there.
func drawnID(random *rand.Rand, v *life) string {
	list := []string{"", "x", id(byte(random.Intn(250)))}
	s := v.store.State()
	for _, token := range s.Tokens {
		list = append(list, token.ID)
	}
	for _, refresh := range s.Refreshes {
		list = append(list, refresh.ID)
	}
	return oneOf(random, list...)
}

// drawnCall is any call; its time is now, or far from it.
func drawnCall(random *rand.Rand, v *life, now int) call {
	if random.Intn(12) == 0 {
		now = oneOf(random, -1, math.MinInt, math.MaxInt, api.MaxNow+1, now-20, now+200)
	}
	auth, params := drawnAsker(random)
	var c call
	switch random.Intn(12) {
	case 0:
		c = caller(auth, params)
	case 1, 2, 3, 4, 5:
		c = redeem(now, auth, append(params, drawnCode(random, v)...))
	case 6, 7:
		c = introspect(now, auth, append(params, pairs("token", drawnID(random, v))...))
	case 8, 9, 10:
		c = revoke(now, auth, append(params, pairs("token", drawnID(random, v))...))
	default:
		c = active(now, drawnID(random, v))
	}
	random.Shuffle(len(c.params), func(i, j int) { c.params[i], c.params[j] = c.params[j], c.params[i] })
	return c.at(random.Intn(2))
}

// drawnOthers is what somebody else may want to write at that time, with the identifier of that byte.
func drawnOthers(random *rand.Rand, v *life, now int, fresh byte) []api.Record {
	client := oneOf(random, "web", "web", "app", "svc")
	scopes := oneOf(random, []string{"read"}, []string{"offline_access", "read"}, []string{"offline_access"})
	code := id(250)
	if list := v.store.State().Codes; len(list) > 0 {
		code = oneOf(random, list...).ID
	}
	switch random.Intn(14) {
	case 0:
		return []api.Record{redeemedRecord(code)}
	case 1:
		return []api.Record{burnedRecord(code)}
	case 2:
		return []api.Record{revokedRecord(drawnID(random, v))}
	case 3:
		return []api.Record{tokenRecord(id(fresh), code, client, now, "read")}
	case 4:
		return []api.Record{{Kind: api.RecTurned, ID: v.lastRefresh()}, tokenRecord(id(fresh), code, client, now, "read"), refreshRecord(id(fresh+1), code, client, now, scopes...)}
	case 5:
		return withdrawal()
	}
	return []api.Record{codeRecord(id(fresh), client, now, scopes...)}
}

// TestLongScripts are made by chance, with all that may fail; what was answered is counted, so that it is seen that all of it was met.
func TestLongScripts(t *testing.T) {
	random := rand.New(rand.NewSource(177))
	reasons, errs, statuses := map[string]int{}, map[error]int{}, map[string]int{}
	ended, burned, tokens := 0, 0, 0
	for range 400 {
		c := config()
		c.CodeLife, c.TokenLife = 1+random.Intn(30), 1+random.Intn(80)
		v := newLife(t, c)
		now := random.Intn(10)
		for n := range byte(120) {
			switch random.Intn(24) {
			case 0:
				v.crash(random.Intn(300) - 2)
				v.open()
			case 1:
				v.arm(random.Intn(6), random.Intn(300)-2)
			case 2:
				v.open()
			case 3, 4, 5, 6, 7:
				v.wait(oneOf(random, n, n, n, n/2))
			case 8:
				now += random.Intn(20)
			case 9, 10, 11:
				v.others(drawnOthers(random, v, now, 120+n)...)
			default:
				call := drawnCall(random, v, now)
				got := v.step(call)
				reasons[got.outcome.Error]++
				errs[got.err]++
				if got.outcome.Status == 200 {
					statuses[call.name]++
				}
				if v.isDead && random.Intn(3) > 0 {
					v.open()
				}
			}
		}
		v.open()
		ended, burned, tokens = ended+len(v.ended), burned+len(v.burned), tokens+len(v.told)
	}
	for _, reason := range []string{"invalid_client", "invalid_request", "invalid_grant", "unsupported_grant_type", "unauthorized_client"} {
		if reasons[reason] < 30 {
			t.Errorf("%s was answered %d times: too few to tell", reason, reasons[reason])
		}
	}
	for _, err := range []error{api.ErrDry, api.ErrTaken, api.ErrArg, api.ErrDead} {
		if errs[err] < 30 {
			t.Errorf("%v was answered %d times: too few to tell", err, errs[err])
		}
	}
	if ended < 150 || burned < 300 || tokens < 300 || statuses["Introspect"] < 300 {
		t.Errorf("%d tokens, %d ended, %d codes burned, %v: too few to tell", tokens, ended, burned, statuses)
	}
}

// TestEveryCallEnds at any texts, numbers and lists, on a disk that is alive, full or dead.
func TestEveryCallEnds(t *testing.T) {
	random := rand.New(rand.NewSource(1710))
	texts := []string{"", "app", "web", "pw", id(1), id(2), id(3), id(4), "\x00", "\xff", "é", " ", "authorization_code", "refresh_token", verifier, address, strings.Repeat("s", 600), strings.Repeat("%", 100)}
	names := []string{"", "client_id", "client_secret", "grant_type", "code", "redirect_uri", "code_verifier", "token", "token_type_hint", "scope", "\xff"}
	auths := append(append(brokenFields(), texts...), basic("web"), basic("web"), basic("web"), basic("web"), basic("svc"))
	times := []int{0, 5, 6, -1, math.MinInt, math.MaxInt, api.MaxNow, api.MaxNow + 1}
	first := newBench(t, config(), 1)
	first.family(1, 2, 3, "web", "read")
	for fresh := range byte(10) {
		first.code(4+fresh, "web", "offline_access")
	}
	lies := look(first.disk)
	for _, spare := range []int{0, 250, plenty} {
		b := benchOn(t, config(), 1, lies, len(lies)+spare)
		for n := range 3000 {
			if n == 2000 {
				b.counts = false
				b.disk.Crash(0)
			}
			if random.Intn(5) == 0 && len(b.draws) < api.MaxDraws {
				b.push(byte(random.Intn(256)))
			}
			var params []api.Pair
			if random.Intn(2) == 0 {
				params = asking(byte(random.Intn(14)))
			}
			for range random.Intn(20) {
				params = append(params, api.Pair{Name: oneOf(random, names...), Value: oneOf(random, texts...)})
			}
			if random.Intn(2) == 0 {
				params = with(with(params, "client_secret"), "client_id")
			}
			now, auth := oneOf(random, times...), oneOf(random, auths...)
			for _, c := range []call{caller(auth, params), redeem(now, auth, params), introspect(now, auth, params), revoke(now, auth, params), active(now, oneOf(random, texts...))} {
				if got := b.play(c); got.err != nil && (got.outcome.Status != 0 || got.outcome.Error != "" || got.outcome.Members != nil || got.outcome.Challenge) {
					t.Fatalf("P17.10: beside an error stands %+v", got)
				}
			}
		}
	}
}
