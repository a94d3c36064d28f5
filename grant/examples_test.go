package grant_test

import (
	"strings"
	"testing"

	"usher/api"
	"usher/grant"
)

// exampleConfig is the chapter's: one client, one user, one round.
func exampleConfig() api.Config {
	c := config()
	c.Clients = c.Clients[:1]
	c.Clients[0].Redirects = []string{address}
	c.Users = c.Users[:1]
	return c
}

// TestExamples goes down the chapter's table.
func TestExamples(t *testing.T) {
	b := newBench(t, exampleConfig(), 1)
	sid := strings.Repeat("A", 43)
	one := "AQEBAQEBAQEBAQEBAQEBAQEBAQEBAQEBAQEBAQEBAQE"
	b.must(refusal(api.ErrDenied), login(5, "ann", "no"))
	b.must(refusal(api.ErrDenied), login(5, "bob", "pw"))
	b.must(refusal(api.ErrDry), login(5, "ann", "pw"))
	b.push(draw(0))
	b.must(answer{text: sid}, login(5, "ann", "pw"))
	if got, ok := b.store.Session(sid); !ok || got != (api.Session{ID: sid, User: "ann", At: 5}) {
		t.Errorf("P16.2: the store has %+v, %v", got, ok)
	}
	b.must(answer{text: "ann", ok: true}, who(104, sid))
	b.must(nobody, who(105, sid))
	b.must(answer{text: "ann", ok: true}, who(-1, sid))

	b.must(toLogin(question()), ask(6, "", asking()))
	b.must(page("invalid_request"), ask(6, sid, with(asking(), "client_id")))
	b.must(page("invalid_request"), ask(6, sid, with(asking(), "redirect_uri", "https://a.example/cb2")))
	b.must(back("unsupported_response_type", "https://a.example/cb?error=unsupported_response_type&state=s1"), ask(6, sid, with(asking(), "response_type", "token")))
	b.must(back("invalid_request", "https://a.example/cb?error=invalid_request"), ask(6, sid, with(asking(), "state", "s1", "s1")))
	asked := api.Verdict{Kind: api.VerConsent, Client: "app", User: "ann", Scopes: []string{"read", "write"}, Params: question(), Ticket: grant.Ticket(sid, question())}
	b.must(answer{verdict: asked}, ask(6, sid, asking()))

	ticket := and(question(), "ticket", asked.Ticket)
	b.must(forged, answering(7, sid, and(question(), "decision", "allow")))
	b.must(back("access_denied", "https://a.example/cb?error=access_denied&state=s1"), answering(7, sid, and(ticket, "decision", "deny")))
	b.push(draw(1))
	b.must(code(one, "https://a.example/cb?code="+one+"&state=s1"), answering(7, sid, and(ticket, "decision", "allow", "grant:read", "yes")))
	if got, ok := b.store.Consent("ann", "app"); !ok || strings.Join(got.Scopes, " ") != "read" || got.At != 7 {
		t.Errorf("P16.9: the store has %+v, %v", got, ok)
	}
	if got, ok := b.store.Code(one); !ok || strings.Join(got.Scopes, " ") != "read" || got.At != 7 {
		t.Errorf("P16.9: the store has %+v, %v", got, ok)
	}
	b.push(draw(2))
	b.must(codeBack(id(2)), ask(8, sid, with(asking(), "scope", "read")))
	b.must(answer{verdict: asked}, ask(8, sid, asking()))
	b.must(answer{ok: true, consents: []api.Consent{{User: "ann", Client: "app", Scopes: []string{"read"}, At: 7}}}, given(8, sid))

	b.must(forged, withdraw(9, sid, pairs("client_id", "app")))
	b.must(done, withdraw(9, sid, pairs("client_id", "app", "ticket", grant.Ticket(sid, pairs("client_id", "app")))))
	if got := b.store.Consents("ann"); len(got) != 0 {
		t.Errorf("P16.12: the store has %+v", got)
	}
	for _, id := range []string{one, id(2)} {
		if got, ok := b.store.Code(id); !ok || !got.Used || !got.Burned {
			t.Errorf("P16.12: the store has %+v, %v", got, ok)
		}
	}
	b.must(done, withdraw(9, sid, withdrawal(sid, "app")))
	b.push(draw(3))
	b.must(toConsent(sid, "ann", with(question(), "scope", "read"), "read"), ask(9, sid, with(asking(), "scope", "read")))
	b.must(answer{}, logout(9, sid))
	b.must(nobody, who(9, sid))
	b.must(nobody, given(9, sid))
}

// TestExampleOfTheBrake is the table's third row.
func TestExampleOfTheBrake(t *testing.T) {
	c := exampleConfig()
	c.Fails, c.LockTime = 2, 10
	b := newBench(t, c, 1)
	b.must(refusal(api.ErrDenied), login(5, "ann", "x"))
	b.must(refusal(api.ErrDenied), login(6, "ann", "y"))
	b.must(refusal(api.ErrMany), login(15, "ann", "pw"))
	b.must(answer{wait: 1}, wait(15, "ann"))
	b.must(answer{wait: 0}, wait(16, "ann"))
	b.must(refusal(api.ErrDenied), login(16, "ann", "z"))
	b.push(draw(0))
	b.must(answer{text: id(0)}, login(17, "ann", "pw"))
}

// TestTheDocumentsRun is the front desk's part of DOC.md's whole run: its ticket, and the sizes of its frames.
func TestTheDocumentsRun(t *testing.T) {
	b := newBench(t, config(), 1)
	asks := with(with(asking(), "state", "xyz"), "code_challenge", "E9Melhoa2OwvFrEMTJguCHaoeK1t8URWbuGJSstw-cM")
	b.push(draw(0), draw(1))
	b.must(answer{text: id(0)}, login(0, "ann", "pw"))
	if size := len(look(b.disk)); size != 8+52 {
		t.Errorf("P16.2: a session takes %d bytes", size)
	}
	if got := b.play(ask(5, id(0), asks)); got.verdict.Ticket != "c0Wp67GfmY2Wm-4SIyXcr6dbnf6pQr9Q6GLdG8HotwY" {
		t.Errorf("P16.10: the ticket is %q", got.verdict.Ticket)
	}
	form := and(with(asks, "scope", "read write"), "ticket", "c0Wp67GfmY2Wm-4SIyXcr6dbnf6pQr9Q6GLdG8HotwY", "decision", "allow", "grant:read", "yes")
	b.must(code(id(1), address+"?code="+id(1)+"&state=xyz"), answering(5, id(0), form))
	if size := len(look(b.disk)); size != 8+52+8+144 {
		t.Errorf("P16.9: behind the code %d bytes lie on the disk", size)
	}
}
