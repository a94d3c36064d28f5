package server_test

import (
	"net/url"
	"strings"
	"testing"

	"usher/api"
	"usher/page"
)

// toLogin is the redirect of somebody who asks at that target and must log in first.
func toLogin(target string) api.Reply { return redirect("/login?next=" + url.QueryEscape(target)) }

// A fault is an authorization request that is not well-formed, and its answer.
type fault struct {
	params []api.Pair
	want   api.Reply
}

// faults are those of the front desk that an error page tells, and those that are sent back to the client.
func faults() []fault {
	good := question("read")
	back := func(reason string) api.Reply { return redirect(address + "?error=" + reason + "&state=s+1") }
	return []fault{
		{nil, errorPage(400, "invalid_request")},
		{with(good, "client_id"), errorPage(400, "invalid_request")},
		{with(good, "client_id", "app", "app"), errorPage(400, "invalid_request")},
		{with(good, "client_id", "nobody"), errorPage(400, "invalid_client")},
		{with(good, "redirect_uri"), errorPage(400, "invalid_request")},
		{with(good, "redirect_uri", "https://evil.example/cb"), errorPage(400, "invalid_request")},
		{with(good, "redirect_uri", webAddress), errorPage(400, "invalid_request")},
		{with(good, "redirect_uri", address+"/"), errorPage(400, "invalid_request")},
		{with(with(good, "redirect_uri", "https://evil.example/cb"), "response_type", "token"), errorPage(400, "invalid_request")},
		{with(good, "state", "a", "b"), redirect(address + "?error=invalid_request")},
		{with(good, "state", "\n"), redirect(address + "?error=invalid_request")},
		{with(good, "response_type"), back("invalid_request")},
		{with(good, "response_type", "token"), back("unsupported_response_type")},
		{with(good, "scope"), back("invalid_scope")},
		{with(good, "scope", "admin"), back("invalid_scope")},
		{with(good, "code_challenge"), back("invalid_request")},
		{with(good, "code_challenge", "short"), back("invalid_request")},
		{with(good, "code_challenge_method", "plain"), back("invalid_request")},
		{with(with(good, "code_challenge_method"), "state"), redirect(address + "?error=invalid_request")},
		{with(with(good, "redirect_uri", "com.example.app:/cb?k?"), "scope", "admin"), redirect("com.example.app:/cb?k?&error=invalid_scope&state=s+1")},
		{with(with(with(good, "client_id", "web"), "redirect_uri", webAddress), "scope", "write"), redirect(webAddress + "&error=invalid_scope&state=s+1")},
		{with(oddQuestion(), "scope", "read"), redirect(oddAddress + "&error=invalid_scope&state=%22%3E%3Cscript%3E%26amp%3B%27")},
	}
}

// TestFaultsOfARequest: with a session and without, in an authorization request and in a consent form.
func TestFaultsOfARequest(t *testing.T) {
	b := newBench(t, config())
	sid := b.begin("ann", 1)
	for _, f := range faults() {
		b.mustKeep(f.want, 6, authorize(f.params))
		b.mustKeep(f.want, 6, by(sid, authorize(f.params)))
		b.mustKeep(f.want, 6, posting("/consent", f.params))
		b.mustKeep(f.want, 6, by(sid, posting("/consent", f.params)))
		b.mustKeep(f.want, 6, deciding(sid, f.params, "allow", "grant:read", "yes"))
	}
}

// TestToLogin: behind an authorization request with the whole target, byte by byte, behind the others without.
func TestToLogin(t *testing.T) {
	b := newBench(t, config())
	for _, target := range []string{
		"/authorize?" + formOf(question("read")), "/authorize?" + formOf(with(question("write read"), "state")), "/authorize?" + formOf(oddQuestion()), "/authorize?&&a=%00&" + formOf(question("read")) + "&b=?/~!\"<'&", "/authorize?" + formOf(and(question("read"), "next", "//evil.example")),
		"/authorize?" + strings.ReplaceAll(formOf(question("read")), "app", "%61pp"),
	} {
		b.mustKeep(toLogin(target), 6, getting(target))
		b.mustKeep(toLogin(target), 6, by(id(9), getting(target)))
	}
	for _, more := range [][]string{nil, {"decision", "deny"}, {"decision", "allow", "grant:read", "yes"}} {
		b.mustKeep(redirect("/login"), 6, posting("/consent", and(question("read"), more...)))
		b.mustKeep(redirect("/login"), 6, posting("/consent?"+formOf(question("read")), and(question("read"), more...)))
		b.mustKeep(redirect("/login"), 6, deciding(id(9), question("read"), "allow", "grant:read", "yes"))
	}
	for _, q := range []api.Request{sending("/withdraw", ""), sending("/withdraw", "client_id=app"), withdrawing(id(9), "app"), sending("/withdraw?next=/a", "next=/a")} {
		b.mustKeep(redirect("/login"), 6, q)
	}
}

// TestTheWayBackFromLogin: the redirect to the login form, the form, and the login lead back to the very request that was asked.
func TestTheWayBackFromLogin(t *testing.T) {
	for _, params := range [][]api.Pair{question("read"), oddQuestion(), with(question("read write"), "redirect_uri", "com.example.app:/cb?k?")} {
		b := newBench(t, config())
		asked := authorize(params)
		got, _ := b.play(5, asked)
		form, _ := b.play(5, getting(got.Fields[0].Value))
		p, err := page.Read(form.Body)
		if err != nil || len(p.Forms) != 1 {
			t.Fatalf("P19.8: %+v, %v", form, err)
		}
		b.push(1)
		b.must(entered(asked.Target, id(1)), 5, posting(p.Forms[0].Action, page.Sent(p.Forms[0], pairs("user", "ann", "pass", "pw"))))
		if got, err := b.play(5, by(id(1), asked)); err != nil || got.Status != 200 {
			t.Errorf("P19.11: %+v, %v", got, err)
		}
	}
}

// consentText is the consent page of the odd client for the odd user.
const consentText = `<!DOCTYPE html>
<html lang="en">
<head>
<meta charset="utf-8">
<title>Allow access</title>
</head>
<body>
<h1>Allow access</h1>
<p>&lt;o&amp;&quot;&#39;&gt; asks for access in your name.</p>
<p>You are logged in as &lt;o&amp;&quot;&#39;&gt;.</p>
<form method="post" action="/consent">
<input type="hidden" name="client_id" value="&lt;o&amp;&quot;&#39;&gt;">
<input type="hidden" name="redirect_uri" value="https://o.example/cb?a=&#39;&amp;b=(1)">
<input type="hidden" name="response_type" value="code">
<input type="hidden" name="scope" value="&#39;&amp;&#39; &lt;b&gt;">
<input type="hidden" name="state" value="&quot;&gt;&lt;script&gt;&amp;amp;&#39;">
<input type="hidden" name="code_challenge" value="CHALLENGE">
<input type="hidden" name="code_challenge_method" value="S256">
<input type="hidden" name="ticket" value="TICKET">
<input type="hidden" name="decision" value="allow">
<p><label><input type="checkbox" name="grant:&#39;&amp;&#39;" value="yes" checked> &#39;&amp;&#39;</label></p>
<p><label><input type="checkbox" name="grant:&lt;b&gt;" value="yes" checked> &lt;b&gt;</label></p>
<p><button type="submit">Allow</button></p>
</form>
<form method="post" action="/consent">
<input type="hidden" name="client_id" value="&lt;o&amp;&quot;&#39;&gt;">
<input type="hidden" name="redirect_uri" value="https://o.example/cb?a=&#39;&amp;b=(1)">
<input type="hidden" name="response_type" value="code">
<input type="hidden" name="scope" value="&#39;&amp;&#39; &lt;b&gt;">
<input type="hidden" name="state" value="&quot;&gt;&lt;script&gt;&amp;amp;&#39;">
<input type="hidden" name="code_challenge" value="CHALLENGE">
<input type="hidden" name="code_challenge_method" value="S256">
<input type="hidden" name="ticket" value="TICKET">
<input type="hidden" name="decision" value="deny">
<p><button type="submit">Deny</button></p>
</form>
</body>
</html>
`

// TestTheConsentPage: with names, an address and a state that hold quotes, brackets and ampersands; its lists in the verdict's order; with no state; with one scope and with as many as may be.
func TestTheConsentPage(t *testing.T) {
	b := newBench(t, config())
	odd := b.begin(oddName, 1)
	got, err := b.play(6, by(odd, authorize(with(oddQuestion(), "scope", "<b> '&' <b>"))))
	want := strings.NewReplacer("TICKET", ticketOf(odd, oddQuestion()), "CHALLENGE", challenge).Replace(consentText)
	if err != nil || got.Status != 200 || got.Body != want {
		t.Errorf("P19.12: %v, %s\nwant %s", err, got.Body, want)
	}
	ann := b.begin("ann", 2)
	stateless := with(question("read"), "state")
	b.mustKeep(consentOf(ann, "app", "ann", stateless, "read"), 6, by(ann, authorize(stateless)))
	b.mustKeep(consentOf(ann, "app", "ann", stateless, "read"), 6, by(ann, authorize(and(stateless, "state", ""))))
	b.mustKeep(consentOf(ann, "app", "ann", question("offline_access read write"), "offline_access", "read", "write"), 6, by(ann, authorize(question("write read offline_access read"))))
	c := config()
	c.Clients[0].Scopes = strings.Fields("a b c d e f g h i j k l m n o p")
	b = newBench(t, c)
	ann = b.begin("ann", 2)
	sixteen := question("a b c d e f g h i j k l m n o p")
	b.mustKeep(consentOf(ann, "app", "ann", sixteen, c.Clients[0].Scopes...), 6, by(ann, authorize(sixteen)))
}

// TestEveryDecision behind a consent form: what is sent back, and that nothing else is done.
func TestEveryDecision(t *testing.T) {
	b := newBench(t, config())
	ann, bob := b.begin("ann", 1), b.begin("bob", 2)
	q := question("read write")
	ticket := ticketOf(ann, q)
	refused := redirect(address + "?error=access_denied&state=s+1")
	b.push(3, 4)
	for _, c := range []struct {
		params []api.Pair
		want   api.Reply
	}{
		{and(q, "decision", "allow", "grant:read", "yes"), errorPage(403, "forged")},
		{and(q, "decision", "allow", "grant:read", "yes", "ticket", ""), errorPage(403, "forged")},
		{and(q, "decision", "allow", "grant:read", "yes", "ticket", ticket, "ticket", ticket), errorPage(403, "forged")},
		{and(q, "decision", "allow", "grant:read", "yes", "ticket", ticket[1:]), errorPage(403, "forged")},
		{and(q, "decision", "allow", "grant:read", "yes", "ticket", ticketOf(bob, q)), errorPage(403, "forged")},
		{and(q, "decision", "allow", "grant:read", "yes", "ticket", ticketOf(ann, question("read"))), errorPage(403, "forged")},
		{and(question("read"), "decision", "deny", "ticket", ticket), errorPage(403, "forged")},
		{and(with(q, "state", "other"), "decision", "allow", "grant:read", "yes", "ticket", ticket), errorPage(403, "forged")},
		{and(q, "ticket", ticket), errorPage(400, "invalid_request")},
		{and(q, "ticket", ticket, "decision", "maybe"), errorPage(400, "invalid_request")},
		{and(q, "ticket", ticket, "decision", "allow", "decision", "allow", "grant:read", "yes"), errorPage(400, "invalid_request")},
		{and(q, "ticket", ticket, "decision", "deny"), refused},
		{and(q, "ticket", ticket, "decision", "deny", "grant:read", "yes"), refused},
		{and(q, "ticket", ticket, "decision", "allow"), refused},
		{and(q, "ticket", ticket, "decision", "allow", "grant:read", "no", "grant:admin", "yes"), refused},
	} {
		b.mustKeep(c.want, 6, by(ann, posting("/consent", c.params)))
	}
	b.mustWrite(redirect(address+"?code="+id(3)+"&state=s+1"), 6, deciding(ann, q, "allow", "grant:write", "yes"), consentRecord("ann", "app", 6, "write"), codeRecord(id(3), "ann", 6, "write"))
	b.mustKeep(consentOf(ann, "app", "ann", q, "read", "write"), 7, by(ann, authorize(q)))
	b.mustWrite(redirect(address+"?code="+id(4)+"&state=s+1"), 7, by(ann, authorize(question("write"))), codeRecord(id(4), "ann", 7, "write"))
	b.mustKeep(consentOf(bob, "app", "bob", question("write"), "write"), 7, by(bob, authorize(question("write"))))
}

func codeRecord(id, user string, at int, scopes ...string) api.Record {
	return api.Record{Kind: api.RecCode, ID: id, User: user, Client: "app", Redirect: address, Challenge: challenge, Scopes: scopes, At: at}
}

// TestWithdraw: every verdict, and what is left.
func TestWithdraw(t *testing.T) {
	b := newBench(t, config())
	ann, bob := b.begin("ann", 1), b.begin("bob", 2)
	b.family(ann, 3, 4, 5)
	b.allow(bob, 6, "read")
	for _, params := range [][]api.Pair{nil, pairs("client_id", ""), pairs("client_id", "app", "client_id", "app"), pairs("client", "app", "ticket", ticketOf(ann, pairs("client_id", "app")))} {
		b.mustKeep(errorPage(400, "invalid_request"), 8, by(ann, posting("/withdraw", params)))
		b.mustKeep(redirect("/login"), 8, posting("/withdraw", params))
	}
	for _, ticket := range []string{"", "x", ticketOf(bob, pairs("client_id", "app")), ticketOf(ann, pairs("client_id", "web")), ticketOf(ann, nil)} {
		b.mustKeep(errorPage(403, "forged"), 8, by(ann, posting("/withdraw", pairs("client_id", "app", "ticket", ticket))))
	}
	b.mustKeep(redirect("/"), 8, withdrawing(ann, "web"))
	b.mustKeep(redirect("/"), 8, withdrawing(ann, "nobody"))
	b.mustKeep(active("ann", "offline_access read", 7), 8, introspecting(id(4)))
	b.mustWrite(redirect("/"), 8, withdrawing(ann, "app"), api.Record{Kind: api.RecWithdrawn, User: "ann", Client: "app"})
	b.mustKeep(redirect("/"), 8, withdrawing(ann, "app"))
	b.mustKeep(inactive, 8, introspecting(id(4)))
	b.mustKeep(errorObject(400, "invalid_grant"), 8, renewing(id(5)))
	b.mustKeep(consentOf(ann, "app", "ann", question("read"), "read"), 8, by(ann, authorize(question("read"))))
	b.mustKeep(homeOf(bob, "bob", "app", "read"), 8, by(bob, getting("/")))
	b.push(7)
	b.must(redirect(address+"?code="+id(7)+"&state=s+1"), 8, by(bob, authorize(question("read"))))
}
