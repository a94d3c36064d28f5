package server_test

import (
	"strings"
	"testing"

	"usher/api"
)

// backPaths are those whose answers are objects.
var backPaths = []string{"/token", "/introspect", "/revoke"}

// TestAuthorizationFields: none, one in whatever case of its name, one that is empty; two are refused, whatever they say, and nothing is asked of a desk.
func TestAuthorizationFields(t *testing.T) {
	b := newBench(t, config())
	b.family(b.begin("ann", 1), 2, 3, 4)
	good := and(pairs("token", id(9)), "grant_type", "authorization_code")
	asWeb := map[string]api.Reply{"/token": errorObject(400, "invalid_request"), "/introspect": inactive, "/revoke": objectOf(200, nil)}
	for _, path := range backPaths {
		for _, name := range []string{"authorization", "Authorization", "AUTHORIZATION", "aUTHORIZATION"} {
			b.mustKeep(asWeb[path], 8, posting(path, good, name, web()))
			b.mustKeep(asWeb[path], 8, posting(path, good, "proxy-authorization", "x", name, web(), "authorisation", "x", "authorization ", "x"))
			for _, second := range []string{web(), "", "Bearer x", basicOf("app", "x")} {
				b.mustKeep(errorObject(400, "invalid_request"), 8, posting(path, good, name, web(), "authorization", second))
				b.mustKeep(errorObject(400, "invalid_request"), 8, posting(path, good, "authorization", second, "host", "y", name, web()))
				b.mustKeep(errorObject(400, "invalid_request"), 8, posting(path, nil, name, second, "authorization", second, name, ""))
			}
		}
		for _, wrong := range []string{"Bearer x", "Basic", "Basic x", basicOf("web", "no"), basicOf("nobody", webPass), basicOf("app", ""), "x", basicOf(oddName, "")} {
			b.mustKeep(challenged, 8, posting(path, good, "authorization", wrong))
			b.mustKeep(challenged, 8, posting(path, nil, "authorization", wrong))
		}
		for _, fields := range [][]string{nil, {"authorization", ""}, {"proxy-authorization", web()}, {"cookie", "sid=" + id(1)}} {
			b.mustKeep(challenged, 8, posting(path, good, fields...))
			b.mustKeep(errorObject(400, "invalid_request"), 8, posting(path, and(good, "client_id", "app", "client_id", "app"), fields...))
			b.mustKeep(asWeb[path], 8, posting(path, and(good, "client_id", "web", "client_secret", webPass), fields...))
		}
		b.mustKeep(errorObject(400, "invalid_request"), 8, posting(path, and(good, "client_secret", webPass), "authorization", web()))
	}
	b.mustKeep(challenged, 8, posting("/introspect", pairs("token", id(3), "client_id", "app")))
	b.mustKeep(active("ann", "offline_access read", 7), 8, introspecting(id(3)))
}

// TestGrantTypes: the desk for refresh tokens is asked just where grant_type is there once and is that word; the till answers all others.
func TestGrantTypes(t *testing.T) {
	b := newBench(t, config())
	b.family(b.begin("ann", 1), 2, 3, 4)
	all := pairs("code", id(9), "redirect_uri", address, "code_verifier", verifier, "refresh_token", id(9), "client_id", "app")
	for _, c := range []struct {
		types []string
		want  api.Reply
	}{
		{nil, errorObject(400, "invalid_request")},
		{[]string{""}, errorObject(400, "invalid_request")},
		{[]string{"refresh_token", "refresh_token"}, errorObject(400, "invalid_request")},
		{[]string{"refresh_token", "authorization_code"}, errorObject(400, "invalid_request")},
		{[]string{"authorization_code", "refresh_token"}, errorObject(400, "invalid_request")},
		{[]string{"authorization_code", "authorization_code"}, errorObject(400, "invalid_request")},
		{[]string{"password"}, errorObject(400, "unsupported_grant_type")},
		{[]string{"client_credentials"}, errorObject(400, "unsupported_grant_type")},
		{[]string{"Refresh_token"}, errorObject(400, "unsupported_grant_type")},
		{[]string{"refresh_token "}, errorObject(400, "unsupported_grant_type")},
		{[]string{"refresh"}, errorObject(400, "unsupported_grant_type")},
		{[]string{"authorization_code"}, errorObject(400, "invalid_grant")},
		{[]string{"", "authorization_code", ""}, errorObject(400, "invalid_grant")},
		{[]string{"refresh_token"}, errorObject(400, "invalid_grant")},
		{[]string{"", "refresh_token", ""}, errorObject(400, "invalid_grant")},
	} {
		b.mustKeep(c.want, 8, posting("/token", with(all, "grant_type", c.types...)))
	}
	// At a time that is none the desk for refresh tokens refuses all, and the till does not: so it is seen which was asked.
	b.mustKeep(errorObject(500, "server_error"), -1, posting("/token", pairs("grant_type", "refresh_token")))
	b.mustKeep(errorObject(500, "server_error"), api.MaxNow+1, posting("/token", pairs("grant_type", "", "grant_type", "refresh_token")))
	for _, body := range []string{"", "grant_type", "grant_type=refresh_token&grant_type=refresh_token", "grant_type=authorization_code", "Grant_type=refresh_token"} {
		b.mustKeep(challenged, -1, sending("/token", body))
	}
	for _, path := range []string{"/introspect", "/revoke"} {
		b.mustKeep(challenged, -1, sending(path, "grant_type=refresh_token"))
	}
	b.mustKeep(errorObject(400, "invalid_request"), 8, posting("/token", pairs("grant_type", "refresh_token", "client_id", "app")))
	b.mustKeep(errorObject(400, "invalid_scope"), 8, renewing(id(4), "scope", "admin"))
}

// TestTokensForCodes: with a refresh token and without, once, by the code's own client alone.
func TestTokensForCodes(t *testing.T) {
	b := newBench(t, config())
	sid := b.begin("ann", 1)
	b.allow(sid, 2, "read write")
	b.push(3, 4, 5, 6)
	b.mustKeep(errorObject(400, "invalid_grant"), 66, redeeming(id(2)))
	b.mustKeep(errorObject(400, "invalid_grant"), 7, as(web(), posting("/token", pairs("grant_type", "authorization_code", "code", id(2), "redirect_uri", address, "code_verifier", verifier))))
	b.mustKeep(errorObject(400, "invalid_request"), 7, redeeming(id(2), "code", id(2)))
	b.mustKeep(errorObject(400, "invalid_request"), 7, redeeming(""))
	token := api.Record{Kind: api.RecToken, ID: id(3), User: "ann", Client: "app", Code: id(2), Scopes: []string{"read", "write"}, At: 65}
	b.mustWrite(tokens(id(3), "", "read write"), 65, redeeming(id(2)), api.Record{Kind: api.RecRedeemed, ID: id(2)}, token)
	b.mustKeep(active("ann", "read write", 65), 3664, introspecting(id(3)))
	b.mustKeep(inactive, 3665, introspecting(id(3)))
	b.mustWrite(errorObject(400, "invalid_grant"), 66, redeeming(id(2)), api.Record{Kind: api.RecBurned, ID: id(2)})
	b.mustKeep(errorObject(400, "invalid_grant"), 66, redeeming(id(2)))
	b.mustKeep(inactive, 66, introspecting(id(3)))
	b.must(redirect(address+"?code="+id(4)+"&state=s+1"), 70, by(sid, authorize(question("read"))))
	b.must(tokens(id(5), "", "read"), 71, redeeming(id(4)))
	b.mustKeep(active("ann", "read", 71), 71, introspecting(id(5)))
}

// TestRenewals: each refresh token once; shown again it ends the family.
func TestRenewals(t *testing.T) {
	b := newBench(t, config())
	b.family(b.begin("ann", 1), 2, 3, 4)
	b.push(5, 6, 7, 8)
	b.must(tokens(id(5), id(6), "read"), 8, renewing(id(4), "scope", "read"))
	b.must(tokens(id(7), id(8), "offline_access read"), 9, renewing(id(6)))
	for _, c := range []struct {
		token byte
		scope string
		at    int
	}{{3, "offline_access read", 7}, {5, "read", 8}, {7, "offline_access read", 9}} {
		b.mustKeep(active("ann", c.scope, c.at), 9, introspecting(id(c.token)))
	}
	b.mustKeep(inactive, 9, introspecting(id(8)))
	b.mustWrite(errorObject(400, "invalid_grant"), 9, renewing(id(4)), api.Record{Kind: api.RecBurned, ID: id(2)})
	for _, token := range []byte{3, 5, 7} {
		b.mustKeep(inactive, 9, introspecting(id(token)))
	}
	b.mustKeep(errorObject(400, "invalid_grant"), 9, renewing(id(8)))
}

// TestRevocations: 200 without a type and a body, whether there was something to revoke or not.
func TestRevocations(t *testing.T) {
	b := newBench(t, config())
	b.family(b.begin("ann", 1), 2, 3, 4)
	revoked := api.Reply{Status: 200, Fields: pairs("Cache-Control", "no-store", "Pragma", "no-cache")}
	for _, token := range []string{"x", id(9), id(1), id(2), "\x00"} {
		b.mustKeep(revoked, 8, revoking(token))
		b.mustKeep(revoked, 8, as(web(), posting("/revoke", pairs("token", token, "token_type_hint", "refresh_token"))))
	}
	b.mustKeep(errorObject(400, "unauthorized_client"), 8, as(web(), posting("/revoke", pairs("token", id(3)))))
	b.mustKeep(errorObject(400, "unauthorized_client"), 8, as(web(), posting("/revoke", pairs("token", id(4)))))
	b.mustKeep(errorObject(400, "invalid_request"), 8, revoking(""))
	b.mustKeep(challenged, 8, sending("/revoke", "token="+id(3)))
	b.mustWrite(revoked, 8, revoking(id(3)), api.Record{Kind: api.RecRevoked, ID: id(3)})
	b.mustKeep(revoked, 8, revoking(id(3)))
	b.mustKeep(inactive, 8, introspecting(id(3)))
	b.push(5, 6)
	b.must(tokens(id(5), id(6), "offline_access read"), 8, renewing(id(4)))
	b.mustWrite(revoked, 1<<40+1, revoking(id(4)), api.Record{Kind: api.RecBurned, ID: id(2)})
	b.mustKeep(revoked, 8, revoking(id(6)))
	b.mustKeep(inactive, 8, introspecting(id(5)))
}

// TestObjects: their bytes, as they stand in an answer.
func TestObjects(t *testing.T) {
	b := newBench(t, config())
	sid := b.begin(oddName, 1)
	b.push(2, 3)
	b.must(redirect(oddAddress+"&code="+id(2)+"&state=%22%3E%3Cscript%3E%26amp%3B%27"), 6, deciding(sid, oddQuestion(), "allow", "grant:<b>", "yes"))
	redeem := posting("/token", pairs("grant_type", "authorization_code", "code", id(2), "redirect_uri", oddAddress, "code_verifier", verifier, "client_id", oddName))
	for _, c := range []struct {
		q    api.Request
		want api.Reply
	}{
		{redeem, api.Reply{Status: 200, Body: `{"access_token":"` + id(3) + `","token_type":"Bearer","expires_in":3600,"scope":"<b>"}`}},
		{introspecting(id(3)), api.Reply{Status: 200, Body: `{"active":true,"scope":"<b>","client_id":"<o&\"'>","username":"<o&\"'>","token_type":"Bearer","exp":3607,"iat":7}`}},
		{introspecting(id(2)), api.Reply{Status: 200, Body: `{"active":false}`}},
		{redeem, api.Reply{Status: 400, Body: `{"error":"invalid_grant"}`}},
	} {
		c.want.Fields = pairs("Content-Type", "application/json", "Cache-Control", "no-store", "Pragma", "no-cache")
		b.must(c.want, 7, c.q)
		c.q.Close = true
		c.want.Fields = append(c.want.Fields, pairs("WWW-Authenticate", `Basic realm="usher"`)...)
		c.want.Status, c.want.Body = 401, `{"error":"invalid_client"}`
		c.q.Body = strings.ReplaceAll(c.q.Body, "client_id", "client")
		c.q.Fields = with(c.q.Fields, "authorization")
		b.must(c.want, 7, c.q)
	}
}

// TestTheFrontHasNoUseForAuthorization: there two of the fields are no fault.
func TestTheFrontHasNoUseForAuthorization(t *testing.T) {
	b := newBench(t, config())
	b.push(1)
	twice := []string{"authorization", web(), "authorization", "x"}
	b.must(strangers, 5, getting("/", twice...))
	b.must(loginPage("/"), 5, getting("/login", twice...))
	b.must(entered("/", id(1)), 5, sending("/login", "user=ann&pass=pw", twice...))
	b.must(left, 5, sending("/logout", "", twice...))
	b.must(redirect("/login"), 5, sending("/withdraw", "", twice...))
}
