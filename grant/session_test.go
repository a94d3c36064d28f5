package grant_test

import (
	"math"
	"reflect"
	"slices"
	"testing"

	"usher/api"
)

// isSameState takes lists without elements for one another.
func isSameState(a, b api.State) bool {
	clean := func(s api.State) api.State {
		return api.State{
			Sessions: append([]api.Session(nil), s.Sessions...), Consents: append([]api.Consent(nil), s.Consents...), Codes: append([]api.Code(nil), s.Codes...),
			Tokens: append([]api.Token(nil), s.Tokens...), Refreshes: append([]api.Refresh(nil), s.Refreshes...),
		}
	}
	return reflect.DeepEqual(clean(a), clean(b))
}

// mustLive fails unless just the calls that say so find the session alive. Logout is not asked here: it would end it.
func (b *bench) mustLive(now int, sid, user string, lives bool) {
	b.t.Helper()
	if !lives {
		user = ""
	}
	b.must(answer{text: user, ok: lives}, who(now, sid))
	if got := b.play(given(now, sid)); got.ok != lives {
		b.t.Fatalf("P16.11: Given(%d) = %v", now, got.ok)
	}
	kinds := map[bool]int{true: api.VerConsent, false: api.VerLogin}
	if got := b.play(ask(now, sid, asking())); got.verdict.Kind != kinds[lives] {
		b.t.Fatalf("P16.6: Ask at %d: %+v", now, got.verdict)
	}
	kinds = map[bool]int{true: api.VerForged, false: api.VerLogin}
	if got := b.play(answering(now, sid, asking())); got.verdict.Kind != kinds[lives] {
		b.t.Fatalf("P16.6: Answer at %d: %+v", now, got.verdict)
	}
	if got := b.play(withdraw(now, sid, pairs("client_id", "app"))); got.verdict.Kind != kinds[lives] {
		b.t.Fatalf("P16.12: Withdraw at %d: %+v", now, got.verdict)
	}
}

// TestLifeOfASession, at its ends.
func TestLifeOfASession(t *testing.T) {
	for _, life := range []int{1, 2, 100, api.MaxLife} {
		for _, at := range []int{0, 1, 5, 1 << 35, api.MaxNow} {
			c := config()
			c.SessionLife = life
			b := newBench(t, c, 1)
			sid := b.beginAs("ann", at, 1)
			for _, now := range []int{math.MinInt, -1 << 41, -1, 0, 1, at - 1, at, at + 1, at + life/2, at + life - 1} {
				b.mustLive(now, sid, "ann", now < at+life)
			}
			for _, now := range []int{at + life, at + life + 1, at + 2*life, api.MaxNow + api.MaxLife, math.MaxInt} {
				b.mustLive(now, sid, "ann", false)
			}
		}
	}
}

// TestNoSessions: what is no session's identifier, though the store may know it.
func TestNoSessions(t *testing.T) {
	b := knowing(t)
	for _, sid := range []string{"", "x", id(3), id(4), id(5), id(9), id(1)[:42], id(1) + "A", id(1) + " ", "ann", "\x00"} {
		b.mustLive(5, sid, "", false)
		b.must(answer{}, logout(5, sid))
	}
	b.mustLive(5, id(2), "", false)
	b.mustLive(5, id(1), "ann", true)
}

// TestSessionOfAStranger: its user need not be in the configuration.
func TestSessionOfAStranger(t *testing.T) {
	b := newBench(t, config(), 1)
	b.commit(sessionRecord(id(1), "carl", 5))
	b.mustLive(6, id(1), "carl", true)
	b.must(refusal(api.ErrDenied), login(6, "carl", "pw"))
	b.push(draw(2), draw(3))
	b.must(codeBack(id(2)), answering(6, id(1), formed(id(1), question(), "decision", "allow", "grant:write", "yes")))
	b.must(codeBack(id(3)), ask(7, id(1), with(asking(), "scope", "write")))
	b.must(answer{ok: true, consents: []api.Consent{{User: "carl", Client: "app", Scopes: []string{"write"}, At: 6}}}, given(7, id(1)))
	b.must(done, withdraw(7, id(1), withdrawal(id(1), "app")))
	b.must(answer{}, logout(8, id(1)))
	b.mustLive(8, id(1), "carl", false)
}

// TestLogout ends this session and no other one.
func TestLogout(t *testing.T) {
	for _, now := range []int{math.MinInt, -1, 0, 5, 6, 104} {
		b := newBench(t, config(), 2)
		sid, other, bobs := b.begin(1), b.begin(2), b.beginAs("bob", 5, 3)
		lies := look(b.disk)
		b.must(answer{}, logout(now, sid).at(1))
		b.mustHold(lies, []api.Record{{Kind: api.RecEnded, ID: sid}})
		for _, then := range []int{math.MinInt, -1, 0, 5, 6, 104, 105} {
			b.mustLive(then, sid, "ann", false)
			b.mustLive(then, other, "ann", then < 105)
			b.mustLive(then, bobs, "bob", then < 105)
			b.must(answer{}, logout(then, sid))
		}
		b.mustHold(lies, []api.Record{{Kind: api.RecEnded, ID: sid}})
	}
}

// TestLogoutOfWhatDoesNotLive does nothing.
func TestLogoutOfWhatDoesNotLive(t *testing.T) {
	b := newBench(t, config(), 1)
	sid := b.begin(1)
	lies := look(b.disk)
	for _, now := range []int{105, 106, 1 << 40, math.MaxInt} {
		b.must(answer{}, logout(now, sid))
	}
	b.mustHold(lies)
	b.mustLive(104, sid, "ann", true)
}

func TestLogoutOnAFullDisk(t *testing.T) {
	first := newBench(t, config(), 1)
	sid := first.begin(1)
	lies := look(first.disk)
	size := len(frame([]api.Record{{Kind: api.RecEnded, ID: sid}}))
	for room := range size {
		b := benchOn(t, config(), 1, lies, len(lies)+room)
		b.must(refusal(api.ErrFull), logout(6, sid))
		b.mustLive(6, sid, "ann", true)
	}
	b := benchOn(t, config(), 1, lies, len(lies)+size)
	b.must(answer{}, logout(6, sid))
	b.mustLive(6, sid, "ann", false)
}

func TestLogoutThatDies(t *testing.T) {
	dying(t, func() *bench {
		b := newBench(t, config(), 1)
		b.begin(1)
		b.begin(2)
		return b
	}, logout(6, id(2)), api.Record{Kind: api.RecEnded, ID: id(2)})
}

// TestTwoDesksSeeTheSame: sessions, consents and codes are the store's.
func TestTwoDesksSeeTheSame(t *testing.T) {
	b := newBench(t, config(), 2)
	b.push(draw(1), draw(2), draw(3))
	b.must(answer{text: id(1)}, login(5, "ann", "pw"))
	b.must(codeBack(id(2)), answering(6, id(1), formed(id(1), question(), "decision", "allow", "grant:read", "yes")).at(1))
	b.must(codeBack(id(3)), ask(6, id(1), with(asking(), "scope", "read")))
	b.must(done, withdraw(7, id(1), withdrawal(id(1), "app")).at(1))
	b.must(toConsent(id(1), "ann", with(question(), "scope", "read"), "read"), ask(7, id(1), with(asking(), "scope", "read")))
	b.must(answer{}, logout(8, id(1)))
	b.mustLive(8, id(1), "ann", false)
	if got := b.play(who(8, id(1)).at(1)); got.ok {
		t.Error("P16.1: one Desk has ended a session, and it lives for the other")
	}
	codes := b.store.State().Codes
	if !slices.ContainsFunc(codes, func(c api.Code) bool { return c.ID == id(2) && c.Burned }) || len(codes) != 2 {
		t.Errorf("P16.1: the store has %+v", codes)
	}
}
