package grant_test

import (
	"math"
	"slices"
	"testing"

	"usher/api"
)

// TestGiven: the consents of the session's user, rising by client, those of clients that are registered no more too.
func TestGiven(t *testing.T) {
	b := newBench(t, config(), 2)
	sid, bobs := b.begin(1), b.beginAs("bob", 5, 2)
	b.must(answer{ok: true}, given(6, sid))
	b.commit(consentRecord("ann", "web", 6, "read"), consentRecord("bob", "app", 7, "write"), consentRecord("ann", "gone", 8, "admin", "x"), consentRecord("carl", "app", 9, "read"))
	b.commit(consentRecord("ann", "app", 10, "write"))
	anns := []api.Consent{
		{User: "ann", Client: "app", Scopes: []string{"write"}, At: 10}, {User: "ann", Client: "gone", Scopes: []string{"admin", "x"}, At: 8}, {User: "ann", Client: "web", Scopes: []string{"read"}, At: 6},
	}
	for desk := range 2 {
		for _, now := range []int{math.MinInt, -1, 0, 5, 104} {
			b.must(answer{ok: true, consents: anns}, given(now, sid).at(desk))
			b.must(answer{ok: true, consents: []api.Consent{{User: "bob", Client: "app", Scopes: []string{"write"}, At: 7}}}, given(now, bobs).at(desk))
		}
	}
	for _, now := range []int{105, 106, math.MaxInt} {
		b.must(nobody, given(now, sid))
	}
	b.must(nobody, given(6, ""))
	b.must(nobody, given(6, "ann"))
	b.must(done, withdraw(11, sid, withdrawal(sid, "gone")))
	b.must(answer{ok: true, consents: []api.Consent{anns[0], anns[2]}}, given(12, sid))
	b.must(answer{}, logout(12, sid))
	b.must(nobody, given(12, sid))
	if got, ok := b.desks[0].Given(12, sid); got != nil || ok {
		t.Errorf("P16.11: Given = %#v, %v, want nil, false", got, ok)
	}
}

// TestWithdrawInItsOrder: the session, the client, the ticket, the consent.
func TestWithdrawInItsOrder(t *testing.T) {
	b := consented(t)
	other := b.begin(3)
	right := withdrawal(id(1), "app")
	lies := look(b.disk)
	for _, now := range []int{105, math.MaxInt} {
		b.must(toLogin(nil), withdraw(now, id(1), right))
		b.must(toLogin(nil), withdraw(now, id(1), nil))
	}
	for _, sid := range []string{"", "x", id(2), id(9)} {
		b.must(toLogin(nil), withdraw(8, sid, withdrawal(sid, "app")))
		b.must(toLogin(nil), withdraw(8, sid, nil))
	}
	for _, clients := range [][]string{nil, {""}, {"app", "app"}, {"app", "web"}, {"app", "", "app"}} {
		b.must(page(api.InvalidRequest), withdraw(8, id(1), with(right, "client_id", clients...)))
		b.must(page(api.InvalidRequest), withdraw(8, id(1), with(pairs("ticket", "x"), "client_id", clients...)))
		b.must(page(api.InvalidRequest), withdraw(8, id(1), with(nil, "client_id", clients...)))
	}
	ticket := ticketOf(id(1), pairs("client_id", "app"))
	for _, tickets := range [][]string{
		nil, {""}, {ticket, ticket}, {ticket, "x"}, {"x", ticket}, {ticket[:42]}, {ticket + "A"}, {ticketOf(other, pairs("client_id", "app"))}, {ticketOf(id(1), pairs("client_id", "web"))},
		{ticketOf(id(1), nil)}, {ticketOf(id(1), question())}, {ticketOf(id(1), right)}, {ticketOf(id(1), pairs("client_id", "app", "x", "y"))}, {ticketOf("", pairs("client_id", "app"))},
	} {
		b.must(forged, withdraw(8, id(1), with(right, "ticket", tickets...)))
	}
	b.must(forged, withdraw(8, other, right))
	b.must(forged, withdraw(8, id(1), with(right, "client_id", "web")))
	b.mustHold(lies)
	if got, _ := b.store.Code(id(2)); got.Used || got.Burned {
		t.Errorf("P16.12: the code is %+v", got)
	}
	b.must(done, withdraw(8, id(1), and(with(with(right, "client_id", "", "app", ""), "ticket", "", ticket, ""), "x", "y", "redirect_uri", "no", "decision", "deny")))
	b.mustHold(lies, []api.Record{{Kind: api.RecWithdrawn, User: "ann", Client: "app"}})
}

// TestWithdrawOfNothing is done at once, and writes nothing.
func TestWithdrawOfNothing(t *testing.T) {
	b := consented(t)
	bobs := b.beginAs("bob", 5, 3)
	lies := look(b.disk)
	for _, client := range []string{"web", "nobody", "App", "app ", "a", "ann", "\x00", " ", "a&b=c", "é", string(make([]byte, 200))} {
		b.must(done, withdraw(8, id(1), withdrawal(id(1), client)))
	}
	b.must(done, withdraw(8, bobs, withdrawal(bobs, "app")))
	b.mustHold(lies)
	if _, ok := b.store.Consent("ann", "app"); !ok {
		t.Error("P16.12: bob has taken back what ann has allowed")
	}
}

// TestWhatIsWithdrawnIsGone: the consent of this user for this client, and its codes; of others nothing.
func TestWhatIsWithdrawnIsGone(t *testing.T) {
	b := newBench(t, config(), 2)
	sid, bobs := b.begin(1), b.beginAs("bob", 5, 2)
	b.allow(3, sid, question(), "read", "write")
	b.allow(4, sid, webAsking("read"), "read")
	b.allow(5, bobs, question(), "read")
	b.push(draw(6), draw(7))
	b.must(codeBack(id(6)), ask(8, sid, asking()))
	b.must(codeBack(id(7)), ask(8, sid, with(asking(), "scope", "write")))
	b.commit(api.Record{Kind: api.RecRedeemed, ID: id(6)}, api.Record{Kind: api.RecRedeemed, ID: id(7)}, api.Record{Kind: api.RecBurned, ID: id(7)}, consentRecord("ann", "gone", 8, "x"))
	lies := look(b.disk)
	b.must(done, withdraw(9, sid, withdrawal(sid, "app")).at(1))
	b.mustHold(lies, []api.Record{{Kind: api.RecWithdrawn, User: "ann", Client: "app"}})
	for _, c := range b.store.State().Codes {
		gone := slices.Contains([]string{id(3), id(6), id(7)}, c.ID)
		if c.Used != gone || c.Burned != gone {
			t.Errorf("P16.12: the code %+v", c)
		}
	}
	b.must(toConsent(sid, "ann", question(), "read", "write"), ask(9, sid, asking()))
	b.must(toConsent(sid, "ann", with(question(), "scope", "read"), "read"), ask(9, sid, with(asking(), "scope", "read")))
	b.must(done, withdraw(9, sid, withdrawal(sid, "gone")))
	b.push(draw(8), draw(9), draw(10))
	b.must(code(id(8), webAddress+"&code="+id(8)+"&state=s1"), ask(9, sid, webAsking("read")))
	b.must(codeBack(id(9)), ask(9, bobs, with(asking(), "scope", "read")))
	b.must(codeBack(id(10)), answering(10, sid, formed(sid, question(), "decision", "allow", "grant:write", "yes")))
	if got, _ := b.store.Code(id(10)); got.Used || got.Burned {
		t.Errorf("P16.14: the new code is %+v", got)
	}
	if got, _ := b.store.Code(id(3)); !got.Used || !got.Burned {
		t.Errorf("P16.14: the old code is %+v", got)
	}
	b.boot()
	b.push(draw(11))
	b.must(codeBack(id(11)), ask(11, sid, with(asking(), "scope", "write")))
}

// TestWithdrawAtAnyTime: no time is written.
func TestWithdrawAtAnyTime(t *testing.T) {
	for _, now := range []int{math.MinInt, -1, 0, 104} {
		b := consented(t)
		b.must(done, withdraw(now, id(1), withdrawal(id(1), "app")))
		if len(b.store.Consents("ann")) != 0 {
			t.Error("P16.12: the consent is there")
		}
	}
}

func TestWithdrawOnAFullDisk(t *testing.T) {
	first := consented(t)
	lies := look(first.disk)
	size := len(frame([]api.Record{{Kind: api.RecWithdrawn, User: "ann", Client: "app"}}))
	for room := range size {
		b := benchOn(t, config(), 1, lies, len(lies)+room)
		before := b.store.State()
		b.must(refusal(api.ErrFull), withdraw(8, id(1), withdrawal(id(1), "app")))
		if !isSameState(before, b.store.State()) {
			t.Fatalf("P16.13: %+v became %+v", before, b.store.State())
		}
		b.must(done, withdraw(8, id(1), withdrawal(id(1), "web")))
	}
	b := benchOn(t, config(), 1, lies, len(lies)+size)
	b.must(done, withdraw(8, id(1), withdrawal(id(1), "app")))
}

func TestWithdrawThatDies(t *testing.T) {
	dying(t, func() *bench { return consented(t) }, withdraw(8, id(1), withdrawal(id(1), "app")), api.Record{Kind: api.RecWithdrawn, User: "ann", Client: "app"})
}

// TestWithdrawFromADeadStore: it has what it had, so there is nothing to take back of an Answer that died; opened anew, it may have it.
func TestWithdrawFromADeadStore(t *testing.T) {
	b := newBench(t, config(), 1)
	b.begin(1)
	b.push(draw(2))
	b.counts = false
	b.disk.Arm(0, plenty)
	b.must(refusal(api.ErrDead), allowing(7))
	b.must(done, withdraw(8, id(1), withdrawal(id(1), "app")))
	b.boot()
	b.must(answer{ok: true, consents: []api.Consent{{User: "ann", Client: "app", Scopes: []string{"read"}, At: 7}}}, given(8, id(1)))
	b.must(done, withdraw(8, id(1), withdrawal(id(1), "app")))
	b.must(answer{ok: true}, given(8, id(1)))
}

// TestAStrangersConsent: the client need not be in the configuration.
func TestAStrangersConsent(t *testing.T) {
	b := newBench(t, config(), 1)
	sid := b.begin(1)
	b.commit(consentRecord("ann", "gone", 5, "read"), codeRecord(id(2), "ann", "gone", 5, "read"))
	b.must(forged, withdraw(6, sid, pairs("client_id", "gone")))
	b.must(done, withdraw(6, sid, withdrawal(sid, "gone")))
	if got, _ := b.store.Code(id(2)); !got.Used || !got.Burned {
		t.Errorf("P16.12: the code is %+v", got)
	}
	b.must(page(api.InvalidClient), ask(6, sid, with(asking(), "client_id", "gone")))
}
