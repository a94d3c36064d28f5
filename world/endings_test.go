package world_test

import (
	"slices"
	"strings"
	"testing"

	"usher/api"
)

// deathsOf are the arms that let the power fail amid the next request that writes.
func deathsOf() [][]api.Step {
	var list [][]api.Step
	for operation := range 2 {
		for _, keep := range []int{0, 1, 30, 1 << 30} {
			list = append(list, []api.Step{arm(operation, keep)}, []api.Step{arm(operation, keep), arm(1, 0)})
		}
	}
	return list
}

// TestNoConsentNoToken: W6; without a login, a ticket, the user's own session, or a box, no code is given out and nothing is kept.
func TestNoConsentNoToken(t *testing.T) {
	v := newVisitor(t, config())
	ann, bob := v.enter("ann"), v.enter("bob")
	asked := question("read write")
	form := and(asked, "ticket", ticketOf(ann, asked), "decision", "allow", "grant:read", "yes", "grant:write", "yes")
	v.draw(3)
	for name, raw := range map[string]string{
		"no session":               posting("/consent", form),
		"another one's session":    posting("/consent", form, cookie(bob)),
		"a session of nobody":      posting("/consent", form, cookie(id(70))),
		"no ticket":                posting("/consent", with(form, "ticket"), cookie(ann)),
		"the ticket twice":         posting("/consent", and(form, "ticket", ticketOf(ann, asked)), cookie(ann)),
		"another one's ticket":     posting("/consent", with(form, "ticket", ticketOf(bob, asked)), cookie(ann)),
		"another question":         posting("/consent", with(form, "scope", "read"), cookie(ann)),
		"another state":            posting("/consent", with(form, "state", "s 2"), cookie(ann)),
		"another client":           posting("/consent", with(with(form, "client_id", "other"), "redirect_uri", address), cookie(ann)),
		"another challenge":        posting("/consent", with(form, "code_challenge", challengeOf("x")), cookie(ann)),
		"a withdrawal's ticket":    posting("/consent", with(form, "ticket", ticketOf(ann, pairs("client_id", "app"))), cookie(ann)),
		"no decision":              posting("/consent", with(form, "decision"), cookie(ann)),
		"deny":                     posting("/consent", with(form, "decision", "deny"), cookie(ann)),
		"no box":                   posting("/consent", with(with(form, "grant:read"), "grant:write"), cookie(ann)),
		"a box for something else": posting("/consent", and(with(with(form, "grant:read"), "grant:write"), "grant:offline_access", "yes"), cookie(ann)),
		"only asked":               getting("/authorize?"+formText(asked), cookie(ann)),
		"asked with a form":        getting("/authorize?"+formText(form), cookie(ann)),
		"a form by GET":            getting("/consent?"+formText(form), cookie(ann)),
		"two cookies":              posting("/consent", form, cookie(ann), cookie(ann)),
	} {
		before := v.trace
		if r := v.send(raw); r.code() != "" || v.trace.Disk != before.Disk {
			t.Errorf("W6: %s: %d %q", name, r.status, r.location())
		}
	}
	out := v.fork()
	out.want(303, logout(ann))
	if r := out.mustKeep("W6", 303, posting("/consent", form, cookie(ann))); r.location() != "/login" {
		t.Errorf("W6: behind a logout: %q", r.location())
	}
	code := v.want(303, posting("/consent", form, cookie(ann))).code()
	token, _ := v.redeem(code)
	v.mustCount("W6", true, token)
	for name, raw := range map[string]string{
		"nobody asks": posting("/introspect", pairs("token", token)), "a public client asks": posting("/introspect", pairs("token", token, "client_id", "app")),
		"a wrong secret": posting("/introspect", pairs("token", token), basicField("web", "no")), "another's secret": posting("/introspect", pairs("token", token), basicField("other", webPass)),
	} {
		if r := v.mustKeep("W6", 401, raw); r.isActive() {
			t.Errorf("W6: %s: %q", name, r.body)
		}
	}
	ledgerOf(t, config(), v.script).checkAll()
}

// wrongRedeems are all ways to show the code of a family but the right one.
func wrongRedeems(code string) map[string]string {
	form := redeemForm(code)
	return map[string]string{
		"no verifier":        posting("/token", with(form, "code_verifier")),
		"a wrong verifier":   posting("/token", with(form, "code_verifier", strings.Repeat("w", 43))),
		"a short verifier":   posting("/token", with(form, "code_verifier", "v")),
		"the challenge":      posting("/token", with(form, "code_verifier", challenge)),
		"the verifier twice": posting("/token", and(form, "code_verifier", verifier)),
		"another address":    posting("/token", with(form, "redirect_uri", "com.example.app:/cb?k?")),
		"a longer address":   posting("/token", with(form, "redirect_uri", address+"/")),
		"no address":         posting("/token", with(form, "redirect_uri")),
		"another client":     posting("/token", with(form, "client_id", oddName)),
		"another's secret":   posting("/token", with(form, "client_id"), asWeb()),
		"no client":          posting("/token", with(form, "client_id")),
		"nobody":             posting("/token", with(form, "client_id", "nobody")),
		"a secret too many":  posting("/token", and(form, "client_secret", "x")),
		"no grant":           posting("/token", with(form, "grant_type")),
		"another grant":      posting("/token", with(form, "grant_type", "password")),
		"a refresh grant":    posting("/token", with(form, "grant_type", "refresh_token")),
		"as a refresh token": posting("/token", and(with(form, "grant_type", "refresh_token"), "refresh_token", code)),
		"another code":       posting("/token", with(form, "code", code[:42]+"B")),
		"no form":            request("POST", "/token", formText(form), "Content-Type: text/plain"),
		"by GET":             getting("/token?" + formText(form)),
		"introspected":       posting("/introspect", pairs("token", code), asWeb()),
		"revoked":            posting("/revoke", pairs("token", code, "client_id", "app")),
	}
}

// TestOnce: W7 and W8; no other attempt gives a token, and each leaves the code as unused as it was; the right one does, once, also if the power fails amid it.
func TestOnce(t *testing.T) {
	v := newVisitor(t, config())
	sid := v.enter("ann")
	code := v.allow(sid, question("offline_access read"), "offline_access", "read")
	v.draw(2)
	for name, raw := range wrongRedeems(code) {
		before := v.trace
		if r := v.send(raw); r.member("access_token") != "" || v.trace.Disk != before.Disk || !isSameState(v.trace.State, before.State) {
			t.Errorf("W8: %s: %d %q", name, r.status, r.body)
		}
	}
	for _, death := range deathsOf() {
		w := v.fork()
		answers := len(w.trace.Outs)
		w.do(append(death, bytesOn(1, redeeming(code)))...)
		if len(w.trace.Outs) != answers {
			t.Fatal("W4: a request amid which the power failed is answered")
		}
		kept, _ := codeOf(w.trace.State, code)
		w.draw(2)
		r := w.send(redeeming(code))
		if (r.status == 200) == kept.Used || len(w.trace.State.Tokens) != 1 {
			t.Errorf("W7: behind a power failure: %d %q, %+v", r.status, r.body, w.trace.State.Tokens)
		}
		if kept.Used {
			w.mustCount("W9", false, w.trace.State.Tokens[0].ID)
		} else {
			w.mustCount("W10", true, r.member("access_token"))
		}
		ledgerOf(t, config(), w.script).checkAll()
	}
	token, _ := v.redeem(code)
	v.mustCount("W7", true, token)
}

// TestACodeShownAgainEndsAll: W9; all tokens and refresh tokens of its family, crashes and all. Only its own client can do that.
func TestACodeShownAgainEndsAll(t *testing.T) {
	v, sid, code, token, refresh := family(t, config())
	v.draw(2)
	r := v.want(200, renewing(refresh))
	next, later := r.member("access_token"), r.member("refresh_token")
	other, _ := v.redeem(v.allow(sid, question("read"), "read"))
	for name, raw := range wrongRedeems(code) {
		w := v.fork()
		r := w.send(raw)
		isShown := r.member("error") == "invalid_grant" && slices.Contains([]string{"a wrong verifier", "a short verifier", "the challenge", "another address", "a longer address"}, name)
		for _, id := range []string{token, next} {
			if w.counts(id) == isShown {
				t.Errorf("W9: %s, for a code that is used: %d %q; the token counts: %v", name, r.status, r.body, isShown)
			}
		}
	}
	for _, death := range append(deathsOf(), nil) {
		w := v.fork()
		w.do(death...)
		w.do(bytesOn(1, redeeming(code)))
		w.do(crash(0))
		if r := w.send(redeeming(code)); r.member("error") != "invalid_grant" {
			t.Fatalf("W9: %d %q", r.status, r.body)
		}
		w.mustCount("W9", false, token, next)
		w.mustCount("W9: another family", true, other)
		w.do(crash(0), tick(5))
		w.draw(2)
		w.mustKeep("W9", 400, renewing(later))
		w.mustKeep("W9", 400, renewing(refresh))
		w.mustKeep("W9", 400, redeeming(code))
		w.mustCount("W9", false, token, next)
		ledgerOf(t, config(), w.script).checkAll()
	}
}

// TestRevoked: W11; what its own client has given back counts no more, crashes and all; with a refresh token its whole family.
func TestRevoked(t *testing.T) {
	t.Parallel()
	v, sid, code, token, refresh := family(t, config())
	v.draw(2)
	r := v.want(200, renewing(refresh))
	next, later := r.member("access_token"), r.member("refresh_token")
	other, _ := v.redeem(v.allow(sid, question("read"), "read"))
	for _, raw := range []string{
		posting("/revoke", pairs("token", token)), posting("/revoke", pairs("token", token), basicField("web", "no")), posting("/revoke", pairs("client_id", "app")), posting("/revoke", pairs("token", token, "token", token, "client_id", "app")),
		posting("/revoke", pairs("token", token), asWeb()), posting("/revoke", pairs("token", later), asWeb()), posting("/revoke", pairs("token", token, "client_id", oddName)), posting("/revoke", pairs("token", code, "client_id", "app")), posting("/revoke", pairs("token", sid, "client_id", "app")),
	} {
		before := v.trace
		if v.send(raw); v.trace.Disk != before.Disk {
			t.Errorf("W11, W16: %q has changed what is kept", raw)
		}
	}
	v.mustCount("W11", true, token, next, other)
	for _, death := range append(deathsOf(), nil) {
		w := v.fork()
		w.do(death...)
		w.do(bytesOn(1, revoking(token)))
		w.want(200, revoking(token))
		w.mustCount("W11", false, token)
		w.mustCount("W11: others of the family", true, next, other)
		w.do(crash(0), tick(1))
		w.mustCount("W11", false, token)
		ledgerOf(t, config(), w.script).checkAll()
		for _, id := range []string{refresh, later} { // a used one, too
			w = v.fork()
			w.do(death...)
			w.do(bytesOn(1, revoking(id)))
			w.want(200, revoking(id))
			w.do(crash(0))
			w.mustCount("W11", false, token, next)
			w.mustCount("W11: another family", true, other)
			w.draw(2)
			w.mustKeep("W11", 400, renewing(later))
			ledgerOf(t, config(), w.script).checkAll()
		}
	}
}

// TestRotation: W12; a refresh token gives a token once, crashes and all; if its own client shows it again, nothing of its family counts.
func TestRotation(t *testing.T) {
	v, _, _, token, refresh := family(t, config())
	v.draw(2)
	for _, raw := range []string{
		renewing(refresh, "scope", "read write"), renewing(refresh, "scope", "write"), renewing(refresh, "scope", "read  read"), renewing(refresh, "scope", "read", "scope", "read"), renewing(refresh, "refresh_token", refresh),
		posting("/token", pairs("grant_type", "refresh_token", "refresh_token", refresh), asWeb()), posting("/token", pairs("grant_type", "refresh_token", "refresh_token", refresh)), posting("/token", pairs("grant_type", "refresh_token", "refresh_token", token, "client_id", "app")),
	} {
		before := v.trace
		if r := v.send(raw); r.member("access_token") != "" || v.trace.Disk != before.Disk {
			t.Errorf("W12: %q: %d %q", raw, r.status, r.body)
		}
	}
	for _, death := range append(deathsOf(), nil) {
		w := v.fork()
		w.do(death...)
		w.do(bytesOn(1, renewing(refresh, "scope", "read")))
		old, _ := refreshOf(w.trace.State, refresh)
		w.draw(2)
		r := w.send(renewing(refresh, "scope", "read"))
		if (r.status == 200) == old.Used {
			t.Fatalf("W12: %+v: %d %q", old, r.status, r.body)
		}
		w.draw(2)
		if r := w.want(400, renewing(refresh)); r.member("error") != "invalid_grant" {
			t.Fatalf("W12: %q", r.body)
		}
		w.do(crash(0))
		for _, v := range w.trace.State.Tokens {
			w.mustCount("W12", false, v.ID)
		}
		for _, v := range w.trace.State.Refreshes {
			w.mustKeep("W12", 400, renewing(v.ID))
		}
		if len(w.trace.State.Tokens) != 2 || len(w.trace.State.Refreshes) != 2 {
			t.Errorf("W12: %+v", w.trace.State)
		}
		ledgerOf(t, config(), w.script).checkAll()
	}
}

// TestTakenBack: W13; no token and no refresh token of that client for that user counts that was given before, and the client must ask anew.
func TestTakenBack(t *testing.T) {
	t.Parallel()
	v, sid, _, token, refresh := family(t, config())
	second, _ := v.redeem(v.allow(sid, question("read write"), "read", "write"))
	unused := v.allow(sid, question("read"), "read")
	bob := v.enter("bob")
	bobs, _ := v.redeem(v.allow(bob, question("read"), "read"))
	webs := with(with(question("read"), "client_id", "web"), "redirect_uri", webAddress)
	webCode := v.allow(sid, webs, "read")
	v.draw(1)
	webToken := v.want(200, posting("/token", pairs("grant_type", "authorization_code", "code", webCode, "redirect_uri", webAddress, "code_verifier", verifier), asWeb())).member("access_token")
	form := pairs("client_id", "app", "ticket", ticketOf(sid, pairs("client_id", "app")))
	for name, raw := range map[string]string{
		"no session": posting("/withdraw", form), "bob's": posting("/withdraw", form, cookie(bob)), "no ticket": posting("/withdraw", with(form, "ticket"), cookie(sid)), "no client": posting("/withdraw", with(form, "client_id"), cookie(sid)),
		"another client": posting("/withdraw", with(form, "client_id", "web"), cookie(sid)), "a question's ticket": posting("/withdraw", with(form, "ticket", ticketOf(sid, question("read"))), cookie(sid)), "by GET": getting("/withdraw?"+formText(form), cookie(sid)), "a client without a consent": withdrawing(sid, "other"),
	} {
		before := v.trace
		if v.send(raw); v.trace.Disk != before.Disk {
			t.Errorf("W13, W16: %s has changed what is kept", name)
		}
	}
	v.mustCount("W13", true, token, second, bobs, webToken)
	for _, death := range append(deathsOf(), nil) {
		w := v.fork()
		w.do(death...)
		w.do(bytesOn(1, withdrawing(sid, "app")))
		w.want(303, withdrawing(sid, "app"))
		w.do(crash(0))
		w.mustCount("W13", false, token, second)
		w.mustCount("W13: of others", true, bobs, webToken)
		w.draw(2)
		w.mustKeep("W13", 400, renewing(refresh))
		w.mustKeep("W13", 400, redeeming(unused))
		if r := w.mustKeep("W13", 200, authorize(sid, question("read"))); !strings.Contains(r.body, "app asks for access in your name.") {
			t.Errorf("W13: %q", r.body)
		}
		if r := w.mustKeep("W13", 200, getting("/", cookie(sid))); strings.Contains(r.body, "app may use") || !strings.Contains(r.body, "web may use: read.") {
			t.Errorf("W13: %q", r.body)
		}
		fresh, _ := w.redeem(w.allow(sid, question("read"), "read"))
		w.mustCount("W13", true, fresh)
		w.mustCount("W13", false, token, second)
		ledgerOf(t, config(), w.script).checkAll()
	}
}

// TestLoggedOut: what a session that was ended shows is nobody's; what was allowed in it stays.
func TestLoggedOut(t *testing.T) {
	v, sid, _, token, _ := family(t, config())
	second := v.enter("ann")
	for _, death := range append(deathsOf(), nil) {
		w := v.fork()
		w.do(death...)
		w.do(bytesOn(1, logout(sid)))
		w.want(303, logout(sid))
		w.do(crash(0))
		w.draw(3)
		w.mustKeep("W6", 303, authorize(sid, question("read")))
		w.mustKeep("W6", 303, deciding(sid, question("read"), "allow", "read"))
		w.mustKeep("W6", 303, withdrawing(sid, "app"))
		if r := w.mustKeep("W16", 200, getting("/", cookie(second))); !strings.Contains(r.body, "You are logged in as ann.") {
			t.Errorf("W16: another session has ended: %q", r.body)
		}
		w.mustCount("W10", true, token)
		ledgerOf(t, config(), w.script).checkAll()
	}
}
