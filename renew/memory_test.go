package renew_test

import (
	"reflect"
	"slices"
	"testing"

	"usher/api"
	"usher/renew"
)

// roomy is a list with spare room that holds something.
func roomy[T any](list []T, spare T) []T {
	return append(slices.Clone(list), spare, spare, spare)[:len(list)]
}

// whole is what a list and its spare room hold.
func whole[T any](list []T) []T { return slices.Clone(list[:cap(list)]) }

// scribble writes a list full, its spare room too, and appends to it.
func scribble[T any](list []T, by T) {
	all := list[:cap(list)]
	for i := range all {
		all[i] = by
	}
	_ = append(list, by)
	if len(list) > 1 {
		_ = append(list[:1], by, by)
	}
}

func scribbleOver(a answer) {
	scribble(a.outcome.Members, api.Member{Name: "#", Kind: api.MemNum, Num: 7})
}

// everyAnswer is calls, one behind the other, that come to every answer which the calls have: at a bench that remembering has made.
func everyAnswer() []call {
	return []call{
		renewing(-1, web(), showing(id(3))), renewing(6, "", nil), renewing(6, web(), showing(id(3), "client_id", "app")), renewing(6, web(), nil), renewing(6, web(), pairs("grant_type", "x")), renewing(6, web(), showing(id(3), "scope", "read", "scope", "read")),
		renewing(6, web(), showing("x")), renewing(6, web(), showing(id(6))), renewing(2000, web(), showing(id(3))), renewing(6, web(), showing(id(3), "scope", "admin")),
		living(6, id(3)), renewing(6, web(), showing(id(3), "scope", "write read")), living(6, id(3)), living(6, id(11)), renewing(7, web(), showing(id(11))), renewing(8, "", showing(id(6), "client_id", "app", "scope", "read")),
		renewing(9, web(), showing(id(13))), renewing(9, web(), showing(id(13))), renewing(9, web(), showing(id(13))), renewing(9, web(), showing(id(13))),
		renewing(10, web(), showing(id(3))), renewing(10, web(), showing(id(3))), renewing(10, web(), showing(id(13))), living(6, id(13)),
	}
}

// remembering is a bench for everyAnswer.
func remembering(t *testing.T, c api.Config) *bench {
	t.Helper()
	b := newBench(t, c, 1)
	b.family(1, 2, 3, "web", 5, all...)
	b.family(4, 5, 6, "app", 5, all...)
	b.push(10, 11, 12, 13, 14, 15, 1, 16, 16, 17)
	return b
}

// TestEveryAnswerIsMet: the other tests of memory would tell nothing if everyAnswer met too little.
func TestEveryAnswerIsMet(t *testing.T) {
	b := remembering(t, config())
	met := map[string]int{}
	for _, c := range everyAnswer() {
		got := b.play(c)
		met[got.outcome.Error]++
		for _, m := range got.outcome.Members {
			met[m.Name]++
		}
		if got.err != nil {
			met[got.err.Error()]++
		}
		if got.holds {
			met["lives"]++
		}
	}
	for what, least := range map[string]int{
		"invalid_client": 1, "invalid_request": 3, "invalid_grant": 6, "unsupported_grant_type": 1, "invalid_scope": 1, "access_token": 3, "refresh_token": 3, "lives": 2,
		api.ErrArg.Error(): 1, api.ErrDry.Error(): 1, api.ErrTaken.Error(): 2,
	} {
		if met[what] < least {
			t.Errorf("%s was met %d times", what, met[what])
		}
	}
}

// TestHandedParametersStayAsTheyWere, what stands behind them too, whatever the answer is.
func TestHandedParametersStayAsTheyWere(t *testing.T) {
	b := remembering(t, config())
	for _, c := range everyAnswer() {
		c.params = roomy(c.params, api.Pair{Name: "scope", Value: "spare"})
		before := whole(c.params)
		b.play(c)
		if !slices.Equal(whole(c.params), before) {
			t.Errorf("P18.8: of %v is left %v", before, whole(c.params))
		}
	}
}

// TestNothingHandedIsKept: who writes into the parameters behind the call changes neither its answer nor a later one: the model holds.
func TestNothingHandedIsKept(t *testing.T) {
	b := remembering(t, config())
	for _, c := range everyAnswer() {
		c.params = roomy(c.params, api.Pair{Name: "scope", Value: "spare"})
		got := b.play(c)
		was, state := plain(got), b.store.State()
		scribble(c.params, api.Pair{Name: "client_id", Value: "#"})
		if !isSame(got, was) || !isSameState(b.store.State(), state) {
			t.Errorf("P18.8: the answer to %+v was %+v and is %+v", c, was, got)
		}
	}
}

// TestAnswersAreNew: who writes into one changes neither another one nor what is kept.
func TestAnswersAreNew(t *testing.T) {
	b := remembering(t, config())
	var answers, copies []answer
	for _, c := range everyAnswer() {
		got := b.play(c)
		answers, copies = append(answers, got), append(copies, plain(got))
		if got.outcome.Status >= 400 { // it may be asked again
			first := b.play(c)
			was, state := plain(first), b.store.State()
			scribbleOver(b.play(c))
			if !isSame(first, was) || !isSameState(b.store.State(), state) {
				t.Errorf("P18.8: writing into an answer to %+v changes another one, or what is kept", c)
			}
		}
	}
	for i := range answers {
		if !isSame(answers[i], copies[i]) {
			t.Errorf("P18.8: the answer %d was %+v and is %+v", i, copies[i], answers[i])
		}
		state := b.store.State()
		scribbleOver(answers[i])
		if !isSameState(b.store.State(), state) {
			t.Errorf("P18.8: writing into the answer %d changes what is kept", i)
		}
	}
}

// TestTheConfigurationStaysAsItWas, the spare room of its lists too.
func TestTheConfigurationStaysAsItWas(t *testing.T) {
	c := config()
	c.Clients = roomy(c.Clients, api.Client{ID: "spare"})
	for i := range c.Clients {
		c.Clients[i].Scopes = roomy(c.Clients[i].Scopes, "spare")
		c.Clients[i].Redirects = roomy(c.Clients[i].Redirects, "spare")
	}
	b := remembering(t, c)
	for _, call := range everyAnswer() {
		scribbleOver(b.play(call))
	}
	if !reflect.DeepEqual(c, config()) || whole(c.Clients)[len(c.Clients)].ID != "spare" {
		t.Errorf("P18.8: the configuration has become %+v", c)
	}
	for i, client := range c.Clients {
		if !slices.Equal(whole(client.Scopes), whole(roomy(config().Clients[i].Scopes, "spare"))) || !slices.Equal(whole(client.Redirects), whole(roomy(config().Clients[i].Redirects, "spare"))) {
			t.Errorf("P18.8: a client has become %+v", client)
		}
	}
}

// TestLivesAreTheConfigurations: a token's in the answer, a refresh token's in what lives.
func TestLivesAreTheConfigurations(t *testing.T) {
	for _, life := range []int{1, 7, api.MaxLife} {
		c := config()
		c.TokenLife, c.RefreshLife, c.CodeLife, c.SessionLife = life, 8-min(life, 7), 3, 4
		b := newBench(t, c, 1)
		b.family(1, 2, 3, "web", 5, "read")
		b.push(10, 11)
		b.must(givenFor(life, id(10), id(11), "read"), renewing(5, web(), showing(id(3))))
		b.mustLive(5+c.RefreshLife-1, 11, true)
		b.mustLive(5+c.RefreshLife, 11, false)
		b.mustCount(5+life-1, 10, true)
		b.mustCount(5+life, 10, false)
	}
}

// TestNewChangesNothing: it asks neither the disk nor the source.
func TestNewChangesNothing(t *testing.T) {
	b := remembering(t, config())
	state, lies := b.store.State(), look(b.disk)
	b.count(0, func() { renew.New(b.config, b.store, b.source, b.tills[0]) })
	if !isSameState(b.store.State(), state) || !slices.Equal(look(b.disk), lies) || b.source.Left() != len(b.draws) {
		t.Error("layer 18: New has changed something")
	}
}

// TestTwoWorlds: Desks over different stores and sources have nothing to do with one another; those over the same see the same, at once.
func TestTwoWorlds(t *testing.T) {
	one, two := newBench(t, config(), 2), newBench(t, config(), 1)
	one.family(1, 2, 3, "web", 5, all...)
	one.push(10, 11)
	two.must(refused("invalid_grant"), renewing(6, web(), showing(id(3))))
	two.mustLive(6, 3, false)
	two.family(1, 2, 3, "web", 5, all...)
	two.must(failure(api.ErrDry), renewing(6, web(), showing(id(3))))
	one.must(given(id(10), id(11), "read"), renewing(6, web(), showing(id(3), "scope", "read")))
	one.must(answer{}, living(6, id(3)).at(1))
	one.must(answer{holds: true}, living(6, id(11)).at(1))
	two.mustLive(6, 3, true)
	two.mustLive(6, 11, false)
	two.push(11, 10)
	two.must(given(id(11), id(10), "offline_access read write"), renewing(6, web(), showing(id(3))))
	one.must(refused("invalid_grant"), renewing(6, web(), showing(id(3))).at(1))
	one.mustLive(6, 11, false)
	two.mustLive(6, 10, true)
	two.mustCount(6, 11, true)
}
