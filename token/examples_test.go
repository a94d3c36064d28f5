package token_test

import (
	"testing"

	"usher/api"
	"usher/field"
	"usher/pkce"
)

// exampleConfig is the chapter's: one public client, one with a secret, one round.
func exampleConfig() api.Config {
	c := config()
	c.Clients = c.Clients[:2]
	return c
}

// TestExamples goes down the chapter's table.
func TestExamples(t *testing.T) {
	b := newBench(t, exampleConfig(), 1)
	web, form := field.BasicOf("web", "pw"), asking(1)
	b.code(1, "web", "read", "write")
	lies := look(b.disk)

	b.must(answer{client: "web", hasShown: true}, caller(web, nil))
	b.must(answer{client: "app"}, caller("", pairs("client_id", "app")))
	b.must(answer{client: "web", hasShown: true}, caller("", pairs("client_id", "web", "client_secret", "pw")))
	for _, c := range []call{caller("", pairs("client_id", "app", "client_secret", "x")), caller("", nil), caller("Bearer x", nil), caller("", pairs("client_id", "web"))} {
		b.must(answer{reason: "invalid_client"}, c)
	}
	for _, c := range []call{caller(web, pairs("client_secret", "pw")), caller(web, pairs("client_id", "app")), caller("", pairs("client_id", "app", "client_id", "app"))} {
		b.must(answer{reason: "invalid_request"}, c)
	}

	b.must(refused("invalid_grant"), redeem(15, web, form))
	b.mustHold(lies)
	b.must(failure(api.ErrDry), redeem(14, web, form))
	b.push(2)
	b.must(given(id(2), "read write"), redeem(14, web, form))
	b.must(answer{isActive: true}, active(14, id(2)))
	b.must(refused("invalid_grant"), redeem(14, web, form))
	if got, ok := b.store.Code(id(1)); !ok || !got.Burned {
		t.Errorf("P17.3: the code is %+v, %v", got, ok)
	}
	b.must(answer{}, active(14, id(2)))

	b.must(refused("invalid_client"), introspect(14, "", pairs("client_id", "app", "token", id(2))))
	b.must(inactive, introspect(14, web, pairs("token", "x")))
	b.must(refused("unauthorized_client"), revoke(14, "", pairs("client_id", "app", "token", id(2))))
	b.must(done(), revoke(14, web, pairs("token", "x")))

	b.code(3, "web", "offline_access", "read")
	lies = look(b.disk)
	b.push(4)
	b.must(failure(api.ErrDry), redeem(14, web, asking(3)))
	b.push(4, 4)
	b.must(failure(api.ErrTaken), redeem(14, web, asking(3)))
	if b.source.Left() != 0 {
		t.Errorf("P17.3: %d draws wait", b.source.Left())
	}
	b.mustHold(lies)
	b.push(4, 5)
	b.must(givenBoth(id(4), id(5), "offline_access read"), redeem(14, web, asking(3)))

	b.must(refused("invalid_client"), redeem(-1, "", nil))
	b.code(6, "web", "read")
	lies = look(b.disk)
	b.push(7)
	b.must(failure(api.ErrArg), redeem(-1, web, asking(6)))
	if b.source.Left() != 0 {
		t.Errorf("P17.3: %d draws wait", b.source.Left())
	}
	b.mustHold(lies)
}

// TestTheDocumentsRun is the back desk's part of DOC.md's whole run: its answers, and the sizes of its frames.
func TestTheDocumentsRun(t *testing.T) {
	secret, err := pkce.Seal("password", "salt", 1)
	if err != nil {
		t.Fatal(err)
	}
	c := config()
	c.CodeLife, c.TokenLife = 60, 3600
	c.Clients[1].Secret = secret
	b := newBench(t, c, 1)
	r := codeRecord(id(1), "app", 5, "read")
	r.Redirect, r.Challenge = "https://a.example/cb", "E9Melhoa2OwvFrEMTJguCHaoeK1t8URWbuGJSstw-cM"
	b.commit(api.Record{Kind: api.RecConsent, User: "ann", Client: "app", Scopes: []string{"read"}, At: 5}, r)
	size := func(want int) {
		t.Helper()
		if got := len(look(b.disk)); got != want {
			t.Errorf("P17.3: %d bytes lie on the disk, want %d", got, want)
		}
	}
	size(8 + 144)
	token := "AgICAgICAgICAgICAgICAgICAgICAgICAgICAgICAgI"
	form := pairs("grant_type", "authorization_code", "code", "AQEBAQEBAQEBAQEBAQEBAQEBAQEBAQEBAQEBAQEBAQE", "redirect_uri", "https://a.example/cb", "code_verifier", "dBjftJeZ4CVP-mB92K27uhbUJU1p1r_wW1gFWFOEjXk", "client_id", "app")
	b.push(2)
	b.must(done(text("access_token", token), text("token_type", "Bearer"), number("expires_in", 3600), text("scope", "read")), redeem(15, "", form))
	size(8 + 144 + 8 + 152)
	asked := introspect(15, "Basic d2ViOnBhc3N3b3Jk", pairs("token", token))
	b.must(done(flag("active", true), text("scope", "read"), text("client_id", "app"), text("username", "ann"), text("token_type", "Bearer"), number("exp", 3615), number("iat", 15)), asked)
	b.must(done(), revoke(15, "", pairs("token", token, "client_id", "app")))
	size(8 + 144 + 8 + 152 + 8 + 47)
	b.must(inactive, asked)
	b.must(refused("invalid_grant"), redeem(15, "", form))
}
