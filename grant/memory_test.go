package grant_test

import (
	"reflect"
	"slices"
	"testing"

	"usher/api"
	"usher/grant"
)

// roomy is a list with spare room that holds something.
func roomy[T any](list []T, spare T) []T {
	return append(slices.Clone(list), spare, spare, spare)[:len(list)]
}

// full is what a list and its spare room hold.
func full[T any](list []T) []T { return slices.Clone(list[:cap(list)]) }

// scribble writes a list full, its spare room too, and appends to it.
func scribble[T any](list []T, by T) {
	all := list[:cap(list)]
	for i := range all {
		all[i] = by
	}
	_ = append(list, by)
	if len(list) > 1 {
		_ = append(list[:1], by, by)
	}
}

// scribbleAll writes all lists of an answer full.
func scribbleAll(a answer) {
	scribble(a.verdict.Scopes, "#")
	scribble(a.verdict.Params, api.Pair{Name: "#", Value: "#"})
	for _, c := range a.consents {
		scribble(c.Scopes, "#")
	}
	scribble(a.consents, api.Consent{User: "#"})
}

// everyAnswer is calls, one behind the other, that come to every answer which the calls have: of the session 1, from the draw 2 on.
func everyAnswer() []call {
	sid := id(1)
	list := []call{
		ask(6, "", asking()), answering(6, "", asking()), ask(6, sid, asking()), ask(6, sid, webAsking("read", "admin")),
		answering(6, sid, asking()), answering(6, sid, formed(sid, question())), answering(6, sid, formed(sid, question(), "decision", "deny")),
		answering(6, sid, formed(sid, question(), "decision", "allow", "grant:read", "yes", "grant:write", "yes")),
		answering(6, sid, formed(sid, webAsking("admin", "read"), "decision", "allow", "grant:read", "yes", "grant:admin", "yes")),
		ask(7, sid, asking()), ask(7, sid, with(asking(), "scope", "read")), given(7, sid), ask(-1, sid, asking()), answering(-1, sid, formed(sid, question(), "decision", "allow", "grant:read", "yes")),
		withdraw(7, "", withdrawal(sid, "app")), withdraw(7, sid, nil), withdraw(7, sid, pairs("client_id", "app")), withdraw(7, sid, withdrawal(sid, "nobody")), withdraw(7, sid, withdrawal(sid, "app")),
		ask(8, sid, asking()), given(8, sid),
	}
	for _, r := range rows() {
		for _, f := range r.faults {
			list = append(list, ask(8, sid, with(asking(), f.name, f.values...)), answering(8, sid, with(asking(), f.name, f.values...)))
		}
	}
	return append(list, logout(9, sid), ask(9, sid, asking()), given(9, sid))
}

// remembering is a bench for everyAnswer.
func remembering(t *testing.T) *bench {
	t.Helper()
	b := newBench(t, config(), 1)
	b.begin(1)
	for i := range byte(10) {
		b.push(draw(2 + i))
	}
	return b
}

// TestHandedParametersStayAsTheyWere, what stands behind them too, whatever the answer is.
func TestHandedParametersStayAsTheyWere(t *testing.T) {
	b := remembering(t)
	kinds := map[int]int{}
	for _, c := range everyAnswer() {
		c.params = roomy(c.params, api.Pair{Name: "ticket", Value: "spare"})
		before := full(c.params)
		got := b.play(c)
		kinds[got.verdict.Kind]++
		if !slices.Equal(full(c.params), before) {
			t.Errorf("P16.10: of %v is left %v", before, full(c.params))
		}
	}
	for kind := 0; kind <= api.VerDone; kind++ {
		if kinds[kind] == 0 {
			t.Errorf("no verdict of the kind %d was answered", kind)
		}
	}
	list := roomy(question(), api.Pair{Name: "x", Value: "y"})
	before := full(list)
	grant.Ticket("sid", list)
	if !slices.Equal(full(list), before) {
		t.Errorf("P16.10: Ticket has left %v of %v", full(list), before)
	}
}

// TestNothingHandedIsKept: who writes into the parameters behind the call changes no later answer: the model holds.
func TestNothingHandedIsKept(t *testing.T) {
	b := remembering(t)
	for _, c := range everyAnswer() {
		c.params = roomy(c.params, api.Pair{Name: "ticket", Value: "spare"})
		got := b.play(c)
		was := plain(got)
		scribble(c.params, api.Pair{Name: "client_id", Value: "#"})
		if !isSame(got, was) {
			t.Errorf("P16.10: the answer to %+v was %+v and is %+v", c, was, got)
		}
	}
}

// TestAnswersAreNew: who writes into one changes neither a later one, nor what is kept, nor the configuration.
func TestAnswersAreNew(t *testing.T) {
	b := remembering(t)
	var all, copies []answer
	for _, c := range everyAnswer() {
		state := b.store.State()
		got := b.play(c)
		if c.name == "Given" || got.verdict.Kind == api.VerConsent || got.verdict.Kind == api.VerLogin {
			twice := b.play(c)
			was := deep(twice)
			scribbleAll(b.play(c))
			if !isSame(twice, was) || !isSameState(b.store.State(), state) {
				t.Errorf("P16.10: writing into an answer to %+v changes another one, or what is kept", c)
			}
		}
		all, copies = append(all, got), append(copies, deep(got))
	}
	for i := range all {
		if !isSame(all[i], copies[i]) {
			t.Errorf("P16.10: the answer %d was %+v and is %+v", i, copies[i], all[i])
		}
		scribbleAll(all[i])
		copies[i] = deep(all[i])
	}
	if !reflect.DeepEqual(b.config, config()) {
		t.Error("P16.1: the configuration has changed")
	}
}

// deep is a copy that shares nothing.
func deep(a answer) answer {
	a = plain(a)
	for i, c := range a.consents {
		a.consents[i].Scopes = slices.Clone(c.Scopes)
	}
	return a
}

// TestListsOfOneAnswer: none shares anything with another one.
func TestListsOfOneAnswer(t *testing.T) {
	b := remembering(t)
	b.commit(consentRecord("ann", "app", 5, "a", "b"), consentRecord("ann", "web", 5, "a", "b"), consentRecord("ann", "x", 5, "a", "b"))
	for i := range 3 {
		got := b.play(given(6, id(1)))
		scribble(got.consents[i].Scopes, "#")
		for j, c := range got.consents {
			if j != i && !slices.Equal(c.Scopes, []string{"a", "b"}) {
				t.Errorf("P16.11: writing into the consent %d changes the consent %d", i, j)
			}
		}
		_ = append(got.consents[:1], api.Consent{User: "#"})
		b.play(given(6, id(1)))
	}
}

// TestTheConfigurationStaysAsItWas, the spare room of its lists too.
func TestTheConfigurationStaysAsItWas(t *testing.T) {
	c := config()
	c.Clients = roomy(c.Clients, api.Client{ID: "spare"})
	c.Users = roomy(c.Users, api.User{Name: "spare"})
	for i := range c.Clients {
		c.Clients[i].Scopes = roomy(c.Clients[i].Scopes, "spare")
		c.Clients[i].Redirects = roomy(c.Clients[i].Redirects, "spare")
	}
	b := newBench(t, c, 1)
	b.begin(1)
	for i := range byte(10) {
		b.push(draw(2 + i))
	}
	for _, call := range everyAnswer() {
		scribbleAll(b.play(call))
	}
	for i, client := range full(c.Clients)[:2] {
		if !slices.Equal(full(client.Scopes), full(roomy(config().Clients[i].Scopes, "spare"))) || !slices.Equal(full(client.Redirects), full(roomy(config().Clients[i].Redirects, "spare"))) {
			t.Errorf("P16.1: a client has become %+v", client)
		}
	}
	if full(c.Clients)[2].ID != "spare" || full(c.Users)[2].Name != "spare" || !reflect.DeepEqual(c.Users, config().Users) {
		t.Errorf("P16.1: the configuration has become %+v", c)
	}
}

// TestTwoWorlds: Desks over different stores have nothing to do with one another.
func TestTwoWorlds(t *testing.T) {
	one, two := newBench(t, braked(1, 10), 1), newBench(t, braked(1, 10), 1)
	sid := one.begin(1)
	two.must(nobody, who(6, sid))
	one.must(refusal(api.ErrDenied), login(6, "ann", "no"))
	two.must(answer{wait: 0}, wait(6, "ann"))
	two.must(refusal(api.ErrDry), login(6, "ann", "pw"))
	two.begin(1)
	one.allow(2, sid, question(), "read")
	two.must(toConsent(sid, "ann", with(question(), "scope", "read"), "read"), ask(8, sid, with(asking(), "scope", "read")))
}
