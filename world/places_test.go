package world_test

import (
	"strings"
	"testing"
)

// TestNoWayOut: W15; whatever stands in next, the browser stays here behind a login.
func TestNoWayOut(t *testing.T) {
	v := newVisitor(t, config())
	for next, want := range map[string]string{
		"": "/", "/": "/", "/a?b=c": "/a?b=c", "/a//b": "/a//b", "//evil.example": "/", "///evil": "/", `/\evil.example`: "/", `\\evil`: "/", "https://evil.example": "/", "evil": "/", "javascript:x": "/", "/\tevil": "/", "/\nevil": "/", " /": "/", "/ ": "/",
		"/é": "/", "/\x00": "/", "/\x7f": "/", "?a": "/", "/a\\b": "/a\\b", "/%2F%2Fevil": "/%2F%2Fevil", "/authorize?" + formText(question("read")): "/authorize?" + formText(question("read")), "/@evil.example": "/@evil.example",
	} {
		v.draw(1)
		r := v.want(303, posting("/login", pairs("user", "ann", "pass", "password", "next", next)))
		if r.location() != want {
			t.Errorf("W15: next %q leads to %q, want %q", next, r.location(), want)
		}
	}
	v.draw(1)
	if r := v.want(303, posting("/login", pairs("user", "ann", "pass", "password", "next", "/a", "next", "/b"))); r.location() != "/" {
		t.Errorf("W15: two places lead to %q", r.location())
	}
	ledgerOf(t, config(), v.script).checkAll()
}

// TestErrorsStayHere: W15; an error is never sent to an address that is not the client's.
func TestErrorsStayHere(t *testing.T) {
	v := newVisitor(t, config())
	sid := v.enter("ann")
	for _, to := range []string{"https://evil.example/cb", address + "/", address + "?", "HTTPS://a.example/cb", webAddress, oddAddress, "/", "//evil", "", address + "#x", "https://a.example@evil.example/cb"} {
		for _, asked := range [][]string{{"response_type", "token"}, {"scope", "admin"}, {"code_challenge", "x"}, {"state", "\n"}, {"scope", "read"}} {
			q := with(with(question("read"), asked[0], asked[1]), "redirect_uri", to)
			if r := v.mustKeep("W15", 400, authorize(sid, q)); r.location() != "" {
				t.Errorf("W15: %q is sent to %q", to, r.location())
			}
			v.mustKeep("W15", 400, deciding(sid, q, "deny"))
		}
	}
	two := authorize(sid, with(question("read"), "redirect_uri", address, address))
	v.mustKeep("W15", 400, two)
	for to, begins := range map[string]string{address: address + "?error=", "com.example.app:/cb?k?": "com.example.app:/cb?k?&error="} {
		r := v.mustKeep("W15", 303, authorize(sid, with(with(question("read"), "scope", "admin"), "redirect_uri", to)))
		if !strings.HasPrefix(r.location(), begins+"invalid_scope&state=s+1") {
			t.Errorf("W15: %q is sent to %q", to, r.location())
		}
	}
	ledgerOf(t, config(), v.script).checkAll()
}

// TestReasons: W19; a reason for each status, and the answers where there is none.
func TestReasons(t *testing.T) {
	v, sid, _, token, refresh := family(t, config())
	v.draw(4)
	for _, w := range []struct {
		status int
		raw    string
	}{
		{200, getting("/")}, {200, getting("/login")}, {200, getting("/", cookie(sid))}, {303, getting("/authorize?" + formText(question("read")))}, {200, authorize(sid, question("write"))}, {303, authorize(sid, question("read"))},
		{400, getting("/?%")}, {400, getting("/login?" + strings.Repeat("a=b&", 33))}, {404, getting("/nothing")}, {404, getting("/login/")}, {404, request("PUT", "/nothing", "")}, {405, request("PUT", "/", "")}, {405, getting("/token")}, {405, request("HEAD", "/authorize", "")},
		{415, request("POST", "/login", "user=ann&pass=password")}, {415, request("POST", "/token", "", "Content-Type: text/plain")}, {415, request("POST", "/revoke", "", "Content-Type: "+formType, "Content-Type: "+formType)},
		{400, posting("/login", pairs("user", "ann"))}, {400, posting("/login", pairs("user", "ann", "user", "ann", "pass", "password"))}, {403, login("ann", "no")}, {403, login("nobody", "password")}, {403, posting("/consent", question("read"), cookie(sid))},
		{401, posting("/token", nil)}, {401, posting("/introspect", pairs("token", token, "client_id", "app"))}, {401, posting("/revoke", pairs("token", token), "Authorization: Bearer x")}, {400, posting("/token", pairs("client_id", "app"))},
		{400, posting("/introspect", pairs("token", token), asWeb(), asWeb())}, {400, posting("/introspect", pairs("token", token, "client_secret", webPass), asWeb())}, {400, posting("/introspect", nil, asWeb())}, {400, posting("/revoke", pairs("token", token), asWeb())},
		{200, introspecting(token)}, {200, introspecting("nobody's")}, {200, revoking("nobody's")}, {200, renewing(refresh, "scope", "read")}, {303, logout("")}, {303, withdrawing(sid, "web")}, {303, withdrawing("", "web")},
	} {
		v.fresh = !v.fresh
		before := len(v.trace.Outs)
		v.do(bytesOn(2, w.raw))
		method, _, _ := strings.Cut(w.raw, " ")
		if r, _ := readFirst(t, v.trace.Outs[before].Text, method); r.status != w.status {
			t.Errorf("W19: %q is answered %d, want %d", w.raw, r.status, w.status)
		}
	}
	ledgerOf(t, config(), v.script).checkAll()
}
