package grant_test

import (
	"math"
	"slices"
	"strings"
	"testing"

	"usher/api"
)

// subsets is all parts of a list that have something.
func subsets(list ...string) [][]string {
	var all [][]string
	for set := 1; set < 1<<len(list); set++ {
		var part []string
		for i, s := range list {
			if set>>i&1 == 1 {
				part = append(part, s)
			}
		}
		all = append(all, part)
	}
	return all
}

// webAsking is a request of the client web for these scopes.
func webAsking(scopes ...string) []api.Pair {
	return with(with(with(asking(), "client_id", "web"), "redirect_uri", webAddress), "scope", strings.Join(scopes, " "))
}

// TestAskByConsent: a code comes at once just if the last consent holds all that is asked for; it has what was asked for, no more, and no consent is written.
func TestAskByConsent(t *testing.T) {
	all := []string{"admin", "grant:read", "read"}
	for _, allowed := range subsets(all...) {
		for _, asked := range subsets(all...) {
			b := newBench(t, config(), 1)
			sid := b.begin(1)
			b.must(toConsent(sid, "ann", webAsking(asked...), asked...), ask(6, sid, webAsking(asked...)))
			b.allow(2, sid, webAsking(all...), allowed...)
			b.push(draw(3))
			lies := look(b.disk)
			c := ask(8, sid, webAsking(asked...))
			if !holds(allowed, asked) {
				b.must(toConsent(sid, "ann", webAsking(asked...), asked...), c)
				b.mustHold(lies)
				continue
			}
			b.must(code(id(3), webAddress+"&code="+id(3)+"&state=s1"), c)
			b.mustHold(lies, []api.Record{codeRecord(id(3), "ann", "web", 8, asked...)})
			if got, _ := b.store.Consent("ann", "web"); got.At != 7 || !slices.Equal(got.Scopes, allowed) {
				t.Errorf("P16.7: the consent is %+v", got)
			}
		}
	}
}

// TestOthersConsents: neither another user's consent counts, nor one for another client, nor two of them together.
func TestOthersConsents(t *testing.T) {
	b := newBench(t, config(), 1)
	sid := b.begin(1)
	b.commit(consentRecord("bob", "app", 5, "read", "write"), consentRecord("ann", "web", 5, "read", "write"), consentRecord("app", "ann", 5, "read", "write"), consentRecord("annapp", "x", 5, "read", "write"))
	b.push(draw(2))
	want := toConsent(sid, "ann", question(), "read", "write")
	b.must(want, ask(6, sid, asking()))
	b.commit(consentRecord("ann", "app", 5, "read"))
	b.must(want, ask(6, sid, asking()))
	b.commit(consentRecord("ann", "app", 5, "write"))
	b.must(want, ask(6, sid, asking()))
	b.must(toConsent(sid, "ann", with(question(), "scope", "read"), "read"), ask(6, sid, with(asking(), "scope", "read")))
	b.commit(consentRecord("ann", "app", 5, "admin", "read", "write"))
	b.must(codeBack(id(2)), ask(6, sid, asking()))
}

// TestTheLastConsentCounts, of whichever of the user's sessions, for all of them.
func TestTheLastConsentCounts(t *testing.T) {
	b := newBench(t, config(), 1)
	one, two := b.begin(1), b.begin(2)
	b.allow(3, one, question(), "read", "write")
	b.push(draw(4))
	b.must(codeBack(id(4)), ask(8, two, asking()))
	b.allow(5, two, question(), "write")
	for _, sid := range []string{one, two} {
		b.must(toConsent(sid, "ann", question(), "read", "write"), ask(8, sid, asking()))
		b.must(toConsent(sid, "ann", with(question(), "scope", "read"), "read"), ask(8, sid, with(asking(), "scope", "read")))
	}
	b.push(draw(6))
	b.must(codeBack(id(6)), ask(8, one, with(asking(), "scope", "write")))
}

// TestConsentsHaveNoEnd: neither the time nor a new login takes one away; a withdrawal does.
func TestConsentsHaveNoEnd(t *testing.T) {
	b := newBench(t, config(), 1)
	sid := b.begin(1)
	b.allow(2, sid, question(), "read", "write")
	b.must(answer{}, logout(8, sid))
	b.must(toLogin(question()), ask(8, sid, asking()))
	later := b.beginAs("ann", api.MaxNow, 3)
	b.push(draw(4), draw(5))
	b.must(codeBack(id(4)), ask(api.MaxNow, later, asking()))
	b.must(codeBack(id(5)), ask(0, later, asking()))
	b.must(done, withdraw(api.MaxNow, later, withdrawal(later, "app")))
	b.must(toConsent(later, "ann", question(), "read", "write"), ask(api.MaxNow, later, asking()))
}

// TestAskingIsFree: the question takes no draw and writes nothing, at whatever time; a code that cannot be kept at that time takes its draw.
func TestAskingIsFree(t *testing.T) {
	b := newBench(t, config(), 1)
	sid := b.begin(1)
	b.push(draw(2))
	for _, now := range []int{math.MinInt, -1, 0, 5, 104} {
		b.must(toConsent(sid, "ann", question(), "read", "write"), ask(now, sid, asking()))
	}
	b.commit(consentRecord("ann", "app", 5, "read", "write"))
	b.must(refusal(api.ErrArg), ask(-1, sid, asking()))
	b.must(refusal(api.ErrDry), ask(-1, sid, asking()))
	b.push(draw(3))
	b.must(toLogin(question()), ask(105, sid, asking()))
	b.must(codeBack(id(3)), ask(104, sid, asking()))
}

// TestAnswerAfterAllowing: a consent that stands does not make a form right.
func TestAnswerAfterAllowing(t *testing.T) {
	b := newBench(t, config(), 1)
	sid := b.begin(1)
	b.allow(2, sid, question(), "read", "write")
	b.push(draw(3))
	b.must(forged, answering(8, sid, asking()))
	b.must(forged, answering(8, sid, and(asking(), "decision", "allow", "grant:read", "yes")))
	b.must(back("access_denied", address+"?error=access_denied&state=s1"), answering(8, sid, formed(sid, question(), "decision", "deny")))
	if got, _ := b.store.Consent("ann", "app"); got.At != 7 || len(got.Scopes) != 2 {
		t.Errorf("P16.8: a deny has left the consent %+v", got)
	}
}
