package world_test

import (
	"strings"
	"testing"

	"usher/api"
)

// An act is a request with the draws that it uses up, and what it must be answered.
type act struct {
	name   string
	draws  []byte
	raw    string
	status int
	holds  string // stands in the answer
	writes bool
}

// tour is every request that writes, and others between them: from the login form to a token, by refresh tokens, to the end of all of it.
func tour() []act {
	asked, offline := question("read write"), question("offline_access read")
	sid := id(1)
	return []act{
		{"home", nil, getting("/"), 200, "You are not logged in.", false},
		{"ask without a session", nil, getting("/authorize?" + formText(asked)), 303, "Location: /login?next=%2Fauthorize%3F", false},
		{"login form", nil, getting("/login?next=%2Fa"), 200, `name="next" value="/a"`, false},
		{"wrong password", nil, login("ann", "no"), 403, "Wrong name or password.", false},
		{"login", []byte{1}, login("ann", "password"), 303, "Set-Cookie: sid=" + sid, true},
		{"home of ann", nil, getting("/", cookie(sid)), 200, "You are logged in as ann.", false},
		{"ask", nil, authorize(sid, asked), 200, ticketOf(sid, asked), false},
		{"forged", nil, posting("/consent", and(asked, "ticket", id(9), "decision", "allow", "grant:read", "yes"), cookie(sid)), 403, "forged", false},
		{"deny", nil, deciding(sid, asked, "deny"), 303, "error=access_denied&state=s+1", false},
		{"allow", []byte{2}, deciding(sid, offline, "allow", "offline_access", "read"), 303, address + "?code=" + id(2) + "&state=s+1", true},
		{"wrong verifier", nil, posting("/token", with(redeemForm(id(2)), "code_verifier", strings.Repeat("w", 43))), 400, "invalid_grant", false},
		{"redeem", []byte{3, 4}, redeeming(id(2)), 200, `"refresh_token":"` + id(4) + `"`, true},
		{"introspect", nil, introspecting(id(3)), 200, `"active":true,"scope":"offline_access read","client_id":"app","username":"ann"`, false},
		{"renew", []byte{5, 6}, renewing(id(4), "scope", "read"), 200, `"scope":"read"`, true},
		{"introspect the next", nil, introspecting(id(5)), 200, `"active":true,"scope":"read"`, false},
		{"renew again", nil, renewing(id(4)), 400, "invalid_grant", true},
		{"introspect the ended", nil, introspecting(id(5)), 200, `{"active":false}`, false},
		{"ask again", []byte{7}, authorize(sid, offline), 303, "code=" + id(7), true},
		{"redeem the second", []byte{8, 9}, redeeming(id(7)), 200, id(8), true},
		{"revoke", nil, revoking(id(8)), 200, "Content-Length: 0", true},
		{"introspect the revoked", nil, introspecting(id(8)), 200, `{"active":false}`, false},
		{"revoke the refresh token", nil, revoking(id(9)), 200, "Content-Length: 0", true},
		{"ask a third time", []byte{10}, authorize(sid, question("read")), 303, "code=" + id(10), true},
		{"redeem the third", []byte{11}, redeeming(id(10)), 200, id(11), true},
		{"redeem the third again", nil, redeeming(id(10)), 400, "invalid_grant", true},
		{"introspect the burned", nil, introspecting(id(11)), 200, `{"active":false}`, false},
		{"ask a fourth time", []byte{13}, authorize(sid, question("read")), 303, "code=" + id(13), true},
		{"home with a consent", nil, getting("/", cookie(sid)), 200, "app may use: offline_access read.", false},
		{"withdraw", nil, withdrawing(sid, "app"), 303, "Location: /\r\n", true},
		{"redeem the withdrawn", nil, redeeming(id(13)), 400, "invalid_grant", false},
		{"ask anew", nil, authorize(sid, question("read")), 200, "asks for access", false},
		{"login of bob", []byte{14}, login("bob", "wp"), 303, "sid=" + id(14), true},
		{"logout", nil, logout(sid), 303, "sid=; Path=/; Max-Age=0", true},
		{"home behind it", nil, getting("/", cookie(sid)), 200, "You are not logged in.", false},
		{"head of home", nil, request("HEAD", "/", "", cookie(id(14))), 200, "Content-Length: ", false},
	}
}

// steps are the draws and the bytes of acts, one step for each request, a tick behind each.
func steps(acts []act) []api.Step {
	var list []api.Step
	for _, a := range acts {
		list = append(list, draws(a.draws...)...)
		list = append(list, bytesOn(0, a.raw), tick(1))
	}
	return list
}

// drawsOf are the draws of all acts.
func drawsOf(acts []act) []api.Step {
	var list []api.Step
	for _, a := range acts {
		list = append(list, draws(a.draws...)...)
	}
	return list
}

// rawOf is the bytes of all acts, one behind the other.
func rawOf(acts []act) string {
	var b strings.Builder
	for _, a := range acts {
		b.WriteString(a.raw)
	}
	return b.String()
}

// mustBeTour fails unless the answers are those of the acts, each on that connection.
func mustBeTour(t *testing.T, acts []act, outs []api.Out) {
	t.Helper()
	if len(outs) != len(acts) {
		t.Fatalf("P20.4: %d answers to %d requests", len(outs), len(acts))
	}
	for i, a := range acts {
		status := "HTTP/1.1 " + decimal(a.status) + " "
		if !strings.HasPrefix(outs[i].Text, status) || !strings.Contains(outs[i].Text, a.holds) {
			t.Fatalf("P20.4: %s is answered %q, want %d and in it %q", a.name, outs[i].Text, a.status, a.holds)
		}
	}
}

// TestTour: every step of it is answered as it should be, also by the model, and just those that are said to do so write.
func TestTour(t *testing.T) {
	acts := tour()
	got := mustBeAsModel(t, config(), steps(acts))
	mustBeTour(t, acts, got.Outs)
	for i, a := range acts {
		ahead, behind := mustRun(t, textOf(config()), steps(acts[:i])...), mustRun(t, textOf(config()), steps(acts[:i+1])...)
		if (ahead.Disk != behind.Disk) != a.writes || isSameState(ahead.State, behind.State) == a.writes {
			t.Errorf("W1: %s has changed what is kept, or has not: %d bytes behind %d", a.name, len(behind.Disk), len(ahead.Disk))
		}
		if !strings.HasPrefix(behind.Disk, ahead.Disk) {
			t.Errorf("W17: %s lets the log do something else than grow", a.name)
		}
	}
}

// TestTourOnceMore: in one chunk, on other connections, each on a connection of its own.
func TestTourOnceMore(t *testing.T) {
	acts := tour()
	c := config()
	mustBeTour(t, acts, mustBeAsModel(t, c, append(drawsOf(acts), bytesOn(15, rawOf(acts)))).Outs)
	var turns, fresh []api.Step
	for i, a := range acts {
		turns = append(turns, bytesOn(i%16, a.raw))
		fresh = append(fresh, bytesOn(3, a.raw), hangUp(3))
	}
	mustBeTour(t, acts, mustBeAsModel(t, c, append(drawsOf(acts), turns...)).Outs)
	mustBeTour(t, acts, mustBeAsModel(t, c, append(drawsOf(acts), fresh...)).Outs)
}
