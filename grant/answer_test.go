package grant_test

import (
	"math"
	"slices"
	"strings"
	"testing"

	"usher/api"
)

// TestTickets: the one of this session and this question, just once.
func TestTickets(t *testing.T) {
	b := newBench(t, config(), 1)
	sid, other := b.begin(1), b.begin(2)
	right := ticketOf(sid, question())
	b.push(draw(3))
	form := and(question(), "decision", "allow", "grant:read", "yes", "grant:write", "yes")
	b.must(forged, answering(7, sid, form))
	for _, ticket := range []string{"", right[:42], right + "A", " " + right, right + "=", strings.ToLower(right), strings.Repeat("A", 43), ticketOf(other, question()), ticketOf("", question()), ticketOf(sid, nil), ticketOf(sid, form), sid, "x", "\x00"} {
		b.must(forged, answering(7, sid, and(form, "ticket", ticket)))
	}
	for i := range right {
		wrong := []byte(right)
		wrong[i] ^= 1
		b.must(forged, answering(7, sid, and(form, "ticket", string(wrong))))
	}
	for _, twice := range [][]string{{right, right}, {right, "x"}, {"x", right}, {right, "", right}} {
		b.must(forged, answering(7, sid, with(form, "ticket", twice...)))
	}
	b.must(forged, answering(7, other, and(form, "ticket", right)))
	b.must(forged, answering(7, sid, and(form, "Ticket", right)))
	b.must(codeBack(id(3)), answering(7, sid, with(form, "ticket", "", right, "")))
}

// TestTicketsOfOtherQuestions: with each one of the seven changed, either way round.
func TestTicketsOfOtherQuestions(t *testing.T) {
	b := newBench(t, config(), 1)
	sid := b.begin(1)
	b.push(draw(2))
	decided := pairs("decision", "allow", "grant:read", "yes", "grant:write", "yes", "grant:admin", "yes")
	asked := [][]api.Pair{
		question(), with(question(), "redirect_uri", address+"?"), with(question(), "scope", "read"), with(question(), "scope", "write"), with(question(), "state", "s2"), with(question(), "state"),
		with(question(), "code_challenge", challenge+"x"), webAsking("read"), webAsking("admin", "read"),
	}
	shownFor := append([][]api.Pair{asking(), question()[:6], question()[1:], with(question(), "response_type", "token"), with(question(), "code_challenge_method", "plain")}, asked...)
	for i, a := range asked {
		for j, q := range shownFor {
			if j-i != len(shownFor)-len(asked) {
				b.must(forged, answering(7, sid, append(and(a, "ticket", ticketOf(sid, q)), decided...)))
			}
		}
	}
	// A form may spell the scopes otherwise than the question does.
	form := with(with(append(and(question(), "ticket", ticketOf(sid, question())), decided...), "scope", "write write read"), "state", "", "s1")
	b.must(codeBack(id(2)), answering(7, sid, form))
}

func TestDecisions(t *testing.T) {
	b := newBench(t, config(), 1)
	sid := b.begin(1)
	b.push(draw(2))
	form := formed(sid, question(), "grant:read", "yes", "grant:write", "yes")
	b.must(page(api.InvalidRequest), answering(7, sid, form))
	for _, decisions := range [][]string{{""}, {"Allow"}, {"ALLOW"}, {"Deny"}, {"allow "}, {"yes"}, {"allowdeny"}, {"allow", "allow"}, {"deny", "deny"}, {"allow", "deny"}, {"deny", "allow"}, {"allow", "", "allow"}, {"x"}, {"\x00"}, {"al"}} {
		b.must(page(api.InvalidRequest), answering(7, sid, with(form, "decision", decisions...)))
	}
	for _, decisions := range [][]string{{"deny"}, {"", "deny"}, {"deny", "", ""}} {
		b.must(back("access_denied", address+"?error=access_denied&state=s1"), answering(7, sid, with(form, "decision", decisions...)))
	}
	b.must(codeBack(id(2)), answering(7, sid, with(form, "decision", "", "allow", "")))
}

// TestTicketComesFirst, then the decision, then what is approved.
func TestTicketComesFirst(t *testing.T) {
	b := newBench(t, config(), 1)
	sid := b.begin(1)
	b.must(forged, answering(7, sid, and(question(), "decision", "x")))
	b.must(forged, answering(7, sid, and(question(), "decision", "deny")))
	b.must(forged, answering(7, sid, question()))
	b.must(page(api.InvalidRequest), answering(7, sid, formed(sid, question(), "decision", "x")))
	b.must(page(api.InvalidRequest), answering(7, sid, formed(sid, question())))
	b.must(back("access_denied", address+"?error=access_denied&state=s1"), answering(7, sid, formed(sid, question(), "decision", "allow")))
}

// TestApprovedScopes: each set of boxes, of one question and of another.
func TestApprovedScopes(t *testing.T) {
	all := []string{"admin", "grant:read", "read"}
	for _, asked := range subsets(all...) {
		for _, ticked := range append(subsets(all...), nil) {
			b := newBench(t, config(), 1)
			sid := b.begin(1)
			b.push(draw(2))
			form := formed(sid, webAsking(asked...), "decision", "allow")
			for _, scope := range slices.Backward(ticked) {
				form = and(form, "grant:"+scope, "yes")
			}
			approved := slices.DeleteFunc(slices.Clone(asked), func(s string) bool { return !slices.Contains(ticked, s) })
			lies := look(b.disk)
			if len(approved) == 0 {
				b.must(back("access_denied", webAddress+"&error=access_denied&state=s1"), answering(7, sid, form))
				b.mustHold(lies)
				continue
			}
			b.must(code(id(2), webAddress+"&code="+id(2)+"&state=s1"), answering(7, sid, form))
			b.mustHold(lies, []api.Record{consentRecord("ann", "web", 7, approved...), codeRecord(id(2), "ann", "web", 7, approved...)})
		}
	}
}

// TestBoxes: one counts if it is there just once, and says yes.
func TestBoxes(t *testing.T) {
	for _, c := range []struct {
		values   []string
		approved bool
	}{
		{[]string{"yes"}, true}, {[]string{"", "yes"}, true}, {[]string{"yes", ""}, true},
		{nil, false}, {[]string{""}, false}, {[]string{"no"}, false}, {[]string{"Yes"}, false}, {[]string{"YES"}, false}, {[]string{"yes "}, false}, {[]string{"ye"}, false}, {[]string{"on"}, false}, {[]string{"true"}, false},
		{[]string{"yes", "yes"}, false}, {[]string{"yes", "no"}, false}, {[]string{"no", "yes"}, false}, {[]string{"yes", "", "yes"}, false},
	} {
		b := newBench(t, config(), 1)
		sid := b.begin(1)
		b.push(draw(2), draw(3))
		form := with(formed(sid, question(), "decision", "allow", "grant:Read", "yes", "grant: read", "yes", "grant:", "yes", "grant:admin", "yes", "grantread", "yes", "read", "yes"), "grant:read", c.values...)
		want := back("access_denied", address+"?error=access_denied&state=s1")
		if c.approved {
			want = codeBack(id(2))
		}
		b.must(want, answering(7, sid, form))
		fresh, scopes := id(2), []string{"write"}
		if c.approved {
			fresh, scopes = id(3), []string{"read", "write"}
		}
		lies := look(b.disk)
		b.must(codeBack(fresh), answering(7, sid, and(form, "grant:write", "yes")))
		b.mustHold(lies, []api.Record{consentRecord("ann", "app", 7, scopes...), codeRecord(fresh, "ann", "app", 7, scopes...)})
	}
}

// TestNothingIsDone by an Answer that gives out no code.
func TestNothingIsDone(t *testing.T) {
	b := newBench(t, config(), 1)
	sid := b.begin(1)
	b.push(draw(2))
	lies := look(b.disk)
	for _, now := range []int{math.MinInt, -1, 0, 7, 104} {
		b.must(forged, answering(now, sid, question()))
		b.must(page(api.InvalidRequest), answering(now, sid, formed(sid, question())))
		b.must(back("access_denied", address+"?error=access_denied&state=s1"), answering(now, sid, formed(sid, question(), "decision", "deny", "grant:read", "yes")))
		b.must(back("access_denied", address+"?error=access_denied&state=s1"), answering(now, sid, formed(sid, question(), "decision", "allow")))
	}
	b.mustHold(lies)
	b.must(toLogin(question()), answering(105, sid, formed(sid, question(), "decision", "allow", "grant:read", "yes")))
	b.must(answer{}, logout(8, sid))
	b.must(toLogin(question()), answering(8, sid, formed(sid, question(), "decision", "allow", "grant:read", "yes")))
}
