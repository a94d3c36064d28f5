package token_test

import (
	"reflect"
	"slices"
	"testing"

	"usher/api"
)

// roomy is a list with spare room that holds something.
func roomy[T any](list []T, spare T) []T {
	return append(slices.Clone(list), spare, spare, spare)[:len(list)]
}

// whole is what a list and its spare room hold.
func whole[T any](list []T) []T { return slices.Clone(list[:cap(list)]) }

// scribble writes a list full, its spare room too, and appends to it.
func scribble[T any](list []T, by T) {
	all := list[:cap(list)]
	for i := range all {
		all[i] = by
	}
	_ = append(list, by)
	if len(list) > 1 {
		_ = append(list[:1], by, by)
	}
}

func scribbleOver(a answer) {
	scribble(a.outcome.Members, api.Member{Name: "#", Kind: api.MemNum, Num: 7})
}

// everyAnswer is calls, one behind the other, that come to every answer which the calls have: at a bench that remembering has made.
func everyAnswer() []call {
	web := basic("web")
	list := []call{
		caller(web, nil), caller("", pairs("client_id", "app")), caller("", nil), caller(web, pairs("client_secret", "x")),
		redeem(6, "", asking(1)), redeem(6, web, nil), redeem(6, web, with(asking(1), "grant_type", "x")), redeem(6, web, asking(9)), redeem(15, web, asking(1)), redeem(6, web, with(asking(1), "redirect_uri", "x")), redeem(6, web, with(asking(1), "code_verifier", "x")),
		redeem(6, web, asking(1)), redeem(6, "", and(asking(2), "client_id", "app")), redeem(-1, web, asking(3)), redeem(7, web, asking(3)),
		introspect(8, web, pairs("token", id(10))), introspect(8, web, pairs("token", id(12))), introspect(8, web, pairs("token", id(11))), introspect(8, web, pairs("token", "x")), introspect(8, web, nil), introspect(8, "", nil), introspect(8, "", pairs("client_id", "app")),
		active(8, id(10)), active(8, id(11)),
		revoke(9, web, pairs("token", "x")), revoke(9, web, nil), revoke(9, "", nil), revoke(9, web, pairs("token", id(12))), revoke(9, "", pairs("token", id(12), "client_id", "app")), revoke(9, "", pairs("token", id(12), "client_id", "app")),
		redeem(9, web, asking(3)), redeem(9, web, asking(3)), revoke(9, web, pairs("token", id(11))), revoke(9, web, pairs("token", id(11))),
		introspect(10, web, pairs("token", id(10))), introspect(10, web, pairs("token", id(12))), redeem(10, web, asking(4)),
	}
	return list
}

// remembering is a bench for everyAnswer.
func remembering(t *testing.T, c api.Config) *bench {
	t.Helper()
	b := newBench(t, c, 1)
	b.code(1, "web", "offline_access", "read")
	b.code(2, "app", "read")
	b.code(3, "web", "read", "write")
	b.code(4, "web", "read")
	b.push(10, 11, 12, 13, 14)
	return b
}

// TestEveryAnswerIsMet: the other tests of memory would tell nothing if everyAnswer met too little.
func TestEveryAnswerIsMet(t *testing.T) {
	b := remembering(t, config())
	met := map[string]int{}
	for _, c := range everyAnswer() {
		got := b.play(c)
		met[got.outcome.Error]++
		for _, m := range got.outcome.Members {
			met[m.Name]++
		}
		if got.err != nil {
			met[got.err.Error()]++
		}
	}
	for _, what := range []string{"invalid_client", "invalid_request", "invalid_grant", "unsupported_grant_type", "unauthorized_client", "access_token", "refresh_token", "active", "iat", api.ErrArg.Error(), api.ErrDry.Error()} {
		if met[what] == 0 {
			t.Errorf("%s was not met", what)
		}
	}
}

// TestHandedParametersStayAsTheyWere, what stands behind them too, whatever the answer is.
func TestHandedParametersStayAsTheyWere(t *testing.T) {
	b := remembering(t, config())
	for _, c := range everyAnswer() {
		c.params = roomy(c.params, api.Pair{Name: "token", Value: "spare"})
		before := whole(c.params)
		b.play(c)
		if !slices.Equal(whole(c.params), before) {
			t.Errorf("P17.10: of %v is left %v", before, whole(c.params))
		}
	}
}

// TestNothingHandedIsKept: who writes into the parameters behind the call changes neither its answer nor a later one: the model holds.
func TestNothingHandedIsKept(t *testing.T) {
	b := remembering(t, config())
	for _, c := range everyAnswer() {
		c.params = roomy(c.params, api.Pair{Name: "token", Value: "spare"})
		got := b.play(c)
		was := plain(got)
		scribble(c.params, api.Pair{Name: "client_id", Value: "#"})
		if !isSame(got, was) {
			t.Errorf("P17.10: the answer to %+v was %+v and is %+v", c, was, got)
		}
	}
}

// TestAnswersAreNew: who writes into one changes neither another one nor what is kept.
func TestAnswersAreNew(t *testing.T) {
	b := remembering(t, config())
	var all, copies []answer
	for _, c := range everyAnswer() {
		got := b.play(c)
		all, copies = append(all, got), append(copies, plain(got))
		if c.name == "Introspect" || got.outcome.Error != "" { // it may be asked again
			first := b.play(c)
			was, state := plain(first), b.store.State()
			scribbleOver(b.play(c))
			if !isSame(first, was) || !isSameState(b.store.State(), state) {
				t.Errorf("P17.10: writing into an answer to %+v changes another one, or what is kept", c)
			}
		}
	}
	for i := range all {
		if !isSame(all[i], copies[i]) {
			t.Errorf("P17.10: the answer %d was %+v and is %+v", i, copies[i], all[i])
		}
		scribbleOver(all[i])
		copies[i] = plain(all[i])
	}
}

// TestTheConfigurationStaysAsItWas, the spare room of its lists too.
func TestTheConfigurationStaysAsItWas(t *testing.T) {
	c := config()
	c.Clients = roomy(c.Clients, api.Client{ID: "spare"})
	for i := range c.Clients {
		c.Clients[i].Scopes = roomy(c.Clients[i].Scopes, "spare")
		c.Clients[i].Redirects = roomy(c.Clients[i].Redirects, "spare")
	}
	b := remembering(t, c)
	for _, call := range everyAnswer() {
		scribbleOver(b.play(call))
	}
	if !reflect.DeepEqual(c, config()) || whole(c.Clients)[len(c.Clients)].ID != "spare" {
		t.Errorf("layer 17: the configuration has become %+v", c)
	}
	for i, client := range c.Clients {
		if !slices.Equal(whole(client.Scopes), whole(roomy(config().Clients[i].Scopes, "spare"))) || !slices.Equal(whole(client.Redirects), whole(roomy(config().Clients[i].Redirects, "spare"))) {
			t.Errorf("layer 17: a client has become %+v", client)
		}
	}
}

// TestTwoWorlds: Tills over different stores and sources have nothing to do with one another; those over the same see the same, at once.
func TestTwoWorlds(t *testing.T) {
	one, two := newBench(t, config(), 2), newBench(t, config(), 1)
	one.code(1, "web", "read")
	one.push(2)
	two.must(refused("invalid_grant"), redeem(6, basic("web"), asking(1)))
	two.code(1, "web", "read")
	two.must(failure(api.ErrDry), redeem(6, basic("web"), asking(1)))
	one.must(given(id(2), "read"), redeem(6, basic("web"), asking(1)))
	one.must(answer{isActive: true}, active(6, id(2)).at(1))
	two.must(answer{}, active(6, id(2)))
	two.push(2)
	two.must(given(id(2), "read"), redeem(6, basic("web"), asking(1)))
	one.must(refused("invalid_grant"), redeem(6, basic("web"), asking(1)).at(1))
	one.must(answer{}, active(6, id(2)))
	two.must(answer{isActive: true}, active(6, id(2)))
}
