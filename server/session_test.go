package server_test

import (
	"strings"
	"testing"

	"usher/api"
)

// cookied is a row: the fields of a request, and whether its session's identifier is ann's.
type cookied struct {
	fields []string
	isAnn  bool
}

// cookies are ways to show the cookie of ann's session, or not; bob's is another one that lives.
func cookies(ann, bob string) []cookied {
	many := func(n int) string { return strings.Repeat("a=b; ", n-1) + "sid=" + ann }
	return []cookied{
		{nil, false},
		{[]string{"cookie", "sid=" + ann}, true},
		{[]string{"Cookie", "sid=" + ann}, true},
		{[]string{"COOKIE", "sid=" + ann}, true},
		{[]string{"cOOkie", `sid="` + ann + `"`}, true},
		{[]string{"cookie", " ;sid=" + ann + "\t; "}, true},
		{[]string{"cookie", "a=b; sid=" + ann}, true},
		{[]string{"cookie", "sid=" + ann + ";a=b"}, true},
		{[]string{"cookie", "SID=" + bob + "; sid=" + ann + "; Sid=" + bob + "; sidx=" + bob + "; xsid=" + bob}, true},
		{[]string{"cookie", "a=b; a=b; sid=" + ann}, true},
		{[]string{"cookie2", "sid=" + bob, "cookie", "sid=" + ann, "set-cookie", "sid=" + bob, "cookies", "sid=" + bob}, true},
		{[]string{"cookie", many(16)}, true},
		{[]string{"cookie", many(17)}, false},
		{[]string{"cookie", ""}, false},
		{[]string{"cookie", "sid="}, false},
		{[]string{"cookie", "sid"}, false},
		{[]string{"cookie", ann}, false},
		{[]string{"cookie", "=" + ann}, false},
		{[]string{"cookie", "SID=" + ann}, false},
		{[]string{"cookie", "Sid=" + ann}, false},
		{[]string{"cookie", "sidx=" + ann}, false},
		{[]string{"cookie", "xsid=" + ann}, false},
		{[]string{"cookie", "a=b"}, false},
		{[]string{"cookie", "sid=" + ann + "; sid=" + ann}, false},
		{[]string{"cookie", "sid=" + ann + "; sid=" + bob}, false},
		{[]string{"cookie", "sid=" + bob + "; sid=" + ann}, false},
		{[]string{"cookie", "sid=; sid=" + ann}, false},
		{[]string{"cookie", "sid=" + ann + "; a=b; sid="}, false},
		{[]string{"cookie", "sid=" + ann + "; a=b; sid=\"\""}, false},
		{[]string{"cookie", "sid=" + ann + "; a"}, false},
		{[]string{"cookie", "sid=" + ann + "; a b=c"}, false},
		{[]string{"cookie", "sid=" + ann + ", a=b"}, false},
		{[]string{"cookie", "sid =" + ann}, false},
		{[]string{"cookie", "sid= " + ann}, false},
		{[]string{"cookie", "sid=" + ann + "\""}, false},
		{[]string{"cookie", "sid=" + strings.ToLower(ann)}, false},
		{[]string{"cookie", "sid=" + ann[1:]}, false},
		{[]string{"cookie", "sid=" + ann + "x"}, false},
		{[]string{"cookie", "sid=" + ann, "cookie", "sid=" + ann}, false},
		{[]string{"cookie", "sid=" + ann, "cookie", "sid=" + bob}, false},
		{[]string{"cookie", "sid=" + ann, "Cookie", "a=b"}, false},
		{[]string{"cookie", "a=b", "cookie", "sid=" + ann}, false},
		{[]string{"cookie", "sid=" + ann, "COOKIE", ""}, false},
		{[]string{"cookie", "", "cookie", "sid=" + ann}, false},
		{[]string{"coo\u212aie", "sid=" + ann}, false},
		{[]string{"set-cookie", "sid=" + ann}, false},
		{[]string{"authorization", "sid=" + ann}, false},
		{[]string{"sid", ann}, false},
	}
}

// TestTheSessionsIdentifier: just one field, that can be read, with just one cookie of that name; on every route that asks for it.
func TestTheSessionsIdentifier(t *testing.T) {
	for _, c := range cookies(id(1), id(2)) {
		b := newBench(t, config())
		b.begin("ann", 1)
		b.begin("bob", 2)
		shown := func(q api.Request) api.Request {
			q.Fields = and(q.Fields, c.fields...)
			return q
		}
		ask := authorize(question("read"))
		consent := shown(posting("/consent", and(question("read"), "ticket", ticketOf(id(1), question("read")), "decision", "deny")))
		withdraw := shown(posting("/withdraw", pairs("client_id", "app", "ticket", ticketOf(id(1), pairs("client_id", "app")))))
		if c.isAnn {
			b.mustKeep(homeOf(id(1), "ann"), 6, shown(getting("/")))
			b.mustKeep(consentOf(id(1), "app", "ann", question("read"), "read"), 6, shown(ask))
			b.mustKeep(redirect(address+"?error=access_denied&state=s+1"), 6, consent)
			b.mustKeep(redirect("/"), 6, withdraw)
			b.mustWrite(left, 6, shown(logout()), api.Record{Kind: api.RecEnded, ID: id(1)})
		} else {
			b.mustKeep(strangers, 6, shown(getting("/")))
			b.mustKeep(redirect("/login?"+formOf(pairs("next", ask.Target))), 6, shown(ask))
			b.mustKeep(redirect("/login"), 6, consent)
			b.mustKeep(redirect("/login"), 6, withdraw)
			b.mustKeep(left, 6, shown(logout()))
		}
	}
}

// TestASessionsLife: at its last tick it lives, at the next one it does not; nor when it is ended; nor one that nobody has begun.
func TestASessionsLife(t *testing.T) {
	b := newBench(t, config())
	sid := b.begin("ann", 1)
	for _, now := range []int{-1 << 63, -1, 0, 5, 1004} {
		b.mustKeep(homeOf(sid, "ann"), now, by(sid, getting("/")))
		b.mustKeep(consentOf(sid, "app", "ann", question("read"), "read"), now, by(sid, authorize(question("read"))))
	}
	for _, now := range []int{1005, 1 << 40, 1<<63 - 1} {
		b.mustKeep(strangers, now, by(sid, getting("/")))
		b.mustKeep(left, now, by(sid, logout()))
		b.mustKeep(redirect("/login"), now, withdrawing(sid, "app"))
		b.mustKeep(redirect("/login"), now, deciding(sid, question("read"), "allow", "grant:read", "yes"))
	}
	b.must(left, 1004, by(sid, logout()))
	for _, now := range []int{0, 5, 1004, 1005} {
		b.mustKeep(strangers, now, by(sid, getting("/")))
		b.mustKeep(left, now, by(sid, logout()))
	}
	code := b.allow(b.begin("ann", 2), 3, "read")
	b.mustKeep(strangers, 6, by(code, getting("/")))
	b.mustKeep(strangers, 6, by(id(9), getting("/")))
	b.mustKeep(strangers, 6, by("ann", getting("/")))
}
