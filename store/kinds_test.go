package store_test

import (
	"reflect"
	"testing"

	"usher/api"
	"usher/store"
)

// The identifiers of estate. Those called fresh are nobody's.
var (
	aSession, anEnded          = id(1), id(2)
	unusedCode, usedCode       = id(11), id(12)
	burnedCode, othersCode     = id(13), id(14)
	aToken, aRevoked           = id(21), id(22)
	aRefresh, aTurned          = id(31), id(32)
	burnedToken, burnedRefresh = id(23), id(33)
	fresh, fresh2              = id(41), id(42)
	bobs                       = who{"bob", "web"}
)

// estate is transactions behind which there is something of every kind, in every state.
func estate() [][]api.Record {
	return [][]api.Record{
		tx(session(aSession, "ann", 1), session(anEnded, "bob", 2), ended(anEnded)),
		tx(consent(anns, 3, "a", "b"), consent(who{"ann", "web"}, 4, "a"), consent(who{"bob", "app"}, 5, "b")),
		tx(code(unusedCode, anns, 6, "a", "b"), code(usedCode, anns, 7, "a", "b", "cc"), redeemed(usedCode)),
		tx(token(aToken, usedCode, anns, 8, "a"), refresh(aRefresh, usedCode, anns, 8, "a", "b")),
		tx(token(aRevoked, usedCode, anns, 9, "b"), revoked(aRevoked), refresh(aTurned, usedCode, anns, 9, "b"), turned(aTurned)),
		tx(code(burnedCode, bobs, 10, "a"), redeemed(burnedCode), token(burnedToken, burnedCode, bobs, 11, "a"), refresh(burnedRefresh, burnedCode, bobs, 11, "a")),
		tx(burned(burnedCode), code(othersCode, bobs, 12, "a"), redeemed(othersCode)),
	}
}

// TestWhatARecordBrings: each kind that brings something, field by field.
func TestWhatARecordBrings(t *testing.T) {
	s, _ := begun(t, estate()...)
	r := code(fresh, anns, 1<<40, "x", "y", "z")
	r.Redirect, r.Challenge = "http://localhost:1/", challenge+"~"
	mustCommit(t, s, nil, r, session(fresh2, "carl", 0))
	if got, ok := s.Code(fresh); !ok || !reflect.DeepEqual(got, api.Code{ID: fresh, Client: "app", User: "ann", Redirect: "http://localhost:1/", Challenge: challenge + "~", Scopes: []string{"x", "y", "z"}, At: 1 << 40}) {
		t.Errorf("P15.4: Code = %+v, %v", got, ok)
	}
	if got, ok := s.Session(fresh2); !ok || got != (api.Session{ID: fresh2, User: "carl"}) {
		t.Errorf("P15.4: Session = %+v, %v", got, ok)
	}
	mustCommit(t, s, nil, token(id(51), usedCode, anns, 77, "a", "cc"), refresh(id(52), usedCode, anns, 78, "b", "cc"))
	if got, ok := s.Token(id(51)); !ok || !reflect.DeepEqual(got, api.Token{ID: id(51), Client: "app", User: "ann", Code: usedCode, Scopes: []string{"a", "cc"}, At: 77}) {
		t.Errorf("P15.4: Token = %+v, %v", got, ok)
	}
	if got, ok := s.Refresh(id(52)); !ok || !reflect.DeepEqual(got, api.Refresh{ID: id(52), Client: "app", User: "ann", Code: usedCode, Scopes: []string{"b", "cc"}, At: 78}) {
		t.Errorf("P15.4: Refresh = %+v, %v", got, ok)
	}
	mustCommit(t, s, nil, consent(who{"carl", "web"}, 79, "q"))
	if got, ok := s.Consent("carl", "web"); !ok || !reflect.DeepEqual(got, api.Consent{User: "carl", Client: "web", Scopes: []string{"q"}, At: 79}) {
		t.Errorf("P15.4: Consent = %+v, %v", got, ok)
	}
}

// TestWhatARecordChanges: each kind that changes something changes that one flag of that one thing, and nothing else.
func TestWhatARecordChanges(t *testing.T) {
	for _, c := range []struct {
		r      api.Record
		change func(*api.State)
	}{
		{ended(aSession), func(s *api.State) { at(s.Sessions, aSession).Ended = true }},
		{redeemed(unusedCode), func(s *api.State) { at(s.Codes, unusedCode).Used = true }},
		{burned(usedCode), func(s *api.State) { at(s.Codes, usedCode).Burned = true }},
		{burned(othersCode), func(s *api.State) { at(s.Codes, othersCode).Burned = true }},
		{revoked(aToken), func(s *api.State) { at(s.Tokens, aToken).Revoked = true }},
		{revoked(burnedToken), func(s *api.State) { at(s.Tokens, burnedToken).Revoked = true }},
		{turned(aRefresh), func(s *api.State) { at(s.Refreshes, aRefresh).Used = true }},
		{turned(burnedRefresh), func(s *api.State) { at(s.Refreshes, burnedRefresh).Used = true }},
		{consent(anns, 90, "z"), func(s *api.State) { s.Consents[0].Scopes, s.Consents[0].At = []string{"z"}, 90 }},
		{withdrawn(anns), func(s *api.State) {
			s.Consents = s.Consents[1:]
			at(s.Codes, unusedCode).Used, at(s.Codes, unusedCode).Burned = true, true
			at(s.Codes, usedCode).Burned = true
		}},
		{withdrawn(who{"bob", "app"}), func(s *api.State) { s.Consents = s.Consents[:2] }},
	} {
		s, d := begun(t, estate()...)
		want := s.State()
		c.change(&want)
		mustCommit(t, s, nil, c.r)
		mustKeep(t, s, want)
		mustHold(t, d, append(estate(), tx(c.r))...)
		mustKeep(t, mustOpen(t, d), want)
	}
}

// at is the element of that identifier in a list of a State.
func at[V any](list []V, id string) *V {
	for i := range list {
		if reflect.ValueOf(list[i]).FieldByName("ID").String() == id {
			return &list[i]
		}
	}
	panic("a test looks for what is not there")
}

// mustNotApply fails unless the transaction is refused for that reason, with nothing changed, in memory and on the disk, and with no operation of the disk.
func mustNotApply(t *testing.T, want error, tx ...api.Record) {
	t.Helper()
	s, d := begun(t, estate()...)
	before := s.State()
	mustNeed(t, d, 0, func() { mustCommit(t, s, want, tx...) })
	mustKeep(t, s, before)
	mustHold(t, d, estate()...)
	mustRefuseInLog(t, tx)
}

// mustRefuseInLog fails unless the same transaction, where it lies in the log, cannot be played.
func mustRefuseInLog(t *testing.T, tx []api.Record) {
	t.Helper()
	data := row(append(estate(), tx)...)
	d := open(data)
	mustRefuse(t, d, api.ErrLog)
	mustLie(t, d, data)
}

// mustApply fails unless the transaction is taken, leads to what the model says, and is found again.
func mustApply(t *testing.T, tx ...api.Record) *store.Store {
	t.Helper()
	s, d := begun(t, estate()...)
	mustNeed(t, d, 2, func() { mustCommit(t, s, nil, tx...) })
	want := stateOf(append(estate(), tx)...)
	mustKeep(t, s, want)
	mustHold(t, d, append(estate(), tx)...)
	mustKeep(t, mustOpen(t, d), want)
	return s
}

// TestTaken: whatever has the identifier, whatever is to get it, and whatever else is wrong.
func TestTaken(t *testing.T) {
	mustApply(t, session(fresh, "ann", 1))
	mustApply(t, code(fresh, anns, 1, "a"))
	mustApply(t, token(fresh, usedCode, anns, 1, "a"))
	mustApply(t, refresh(fresh, usedCode, anns, 1, "a"))
	for _, id := range []string{aSession, anEnded, unusedCode, usedCode, burnedCode, aToken, aRevoked, aRefresh, aTurned} {
		mustNotApply(t, api.ErrTaken, session(id, "ann", 1))
		mustNotApply(t, api.ErrTaken, code(id, anns, 6, "a", "b"))
		for _, child := range []func(id, code string, w who, at int, scopes ...string) api.Record{token, refresh} {
			mustNotApply(t, api.ErrTaken, child(id, usedCode, anns, 8, "a"))
			mustNotApply(t, api.ErrTaken, child(id, fresh, anns, 8, "a"))
			mustNotApply(t, api.ErrTaken, child(id, unusedCode, anns, 8, "a"))
			mustNotApply(t, api.ErrTaken, child(id, burnedCode, bobs, 8, "a"))
			mustNotApply(t, api.ErrTaken, child(id, usedCode, bobs, 8, "none"))
		}
	}
}

// TestTakenWithinATransaction: two things of one identifier, of any two kinds.
func TestTakenWithinATransaction(t *testing.T) {
	things := []api.Record{session(fresh, "ann", 1), code(fresh, anns, 1, "a"), token(fresh, usedCode, anns, 1, "a"), refresh(fresh, usedCode, anns, 1, "a")}
	for _, one := range things {
		for _, other := range things {
			mustNotApply(t, api.ErrTaken, one, other)
			mustNotApply(t, api.ErrTaken, one, ended(aSession), other)
		}
	}
}

func TestEndedDoesNotApply(t *testing.T) {
	for _, id := range []string{fresh, anEnded, unusedCode, usedCode, aToken, aRefresh} {
		mustNotApply(t, api.ErrLost, ended(id))
	}
	mustNotApply(t, api.ErrLost, ended(aSession), ended(aSession))
}

func TestRedeemedDoesNotApply(t *testing.T) {
	for _, id := range []string{fresh, usedCode, burnedCode, aSession, aToken, aRefresh} {
		mustNotApply(t, api.ErrLost, redeemed(id))
	}
	mustNotApply(t, api.ErrLost, redeemed(unusedCode), redeemed(unusedCode))
}

func TestBurnedDoesNotApply(t *testing.T) {
	for _, id := range []string{fresh, unusedCode, burnedCode, aSession, aToken, aRefresh} {
		mustNotApply(t, api.ErrLost, burned(id))
	}
	mustNotApply(t, api.ErrLost, burned(usedCode), burned(usedCode))
	mustApply(t, redeemed(unusedCode), burned(unusedCode))
}

func TestRevokedDoesNotApply(t *testing.T) {
	for _, id := range []string{fresh, aRevoked, aSession, usedCode, aRefresh, aTurned} {
		mustNotApply(t, api.ErrLost, revoked(id))
	}
	mustNotApply(t, api.ErrLost, revoked(aToken), revoked(aToken))
}

func TestTurnedDoesNotApply(t *testing.T) {
	for _, id := range []string{fresh, aTurned, aSession, usedCode, aToken, aRevoked} {
		mustNotApply(t, api.ErrLost, turned(id))
	}
	mustNotApply(t, api.ErrLost, turned(aRefresh), turned(aRefresh))
}

func TestWithdrawnDoesNotApply(t *testing.T) {
	for _, w := range []who{{"bob", "web"}, {"app", "ann"}, {"ann", "ap"}, {"an", "napp"}, {"annapp", "x"}, {"Ann", "app"}, {"carl", "app"}, {"ann", "other"}} {
		mustNotApply(t, api.ErrLost, withdrawn(w))
	}
	mustNotApply(t, api.ErrLost, withdrawn(anns), withdrawn(anns))
	mustApply(t, withdrawn(anns), consent(anns, 99, "a"), withdrawn(anns))
}

// TestConsentAlwaysApplies: anew, over another one, behind a withdrawal, of names that nobody else has.
func TestConsentAlwaysApplies(t *testing.T) {
	for _, w := range []who{anns, bobs, {"bob", "app"}, {"app", "ann"}, {"x", "y"}} {
		mustApply(t, consent(w, 0, "a"))
		mustApply(t, consent(w, 3, "a", "b"), consent(w, 2, "q"))
		mustApply(t, consent(w, 3, "a"), withdrawn(w), consent(w, 1, "b"))
	}
}

// TestChildDoesNotApply: tokens and refresh tokens ask the same of their code.
func TestChildDoesNotApply(t *testing.T) {
	for _, child := range []func(id, code string, w who, at int, scopes ...string) api.Record{token, refresh} {
		for _, code := range []string{fresh, fresh2, unusedCode, aSession, aToken, aRefresh} {
			mustNotApply(t, api.ErrLost, child(fresh, code, anns, 8, "a"))
		}
		mustNotApply(t, api.ErrLost, child(fresh, burnedCode, bobs, 8, "a"))
		mustNotApply(t, api.ErrLost, child(fresh, unusedCode, anns, 8, "a"), redeemed(unusedCode))
		mustNotApply(t, api.ErrLost, burned(usedCode), child(fresh, usedCode, anns, 8, "a"))
		mustNotApply(t, api.ErrLost, withdrawn(anns), child(fresh, usedCode, anns, 8, "a"))
		for _, w := range []who{{"bob", "app"}, {"ann", "web"}, {"bob", "web"}, {"app", "ann"}, {"annapp", "x"}, {"an", "napp"}} {
			mustNotApply(t, api.ErrLost, child(fresh, usedCode, w, 8, "a"))
		}
		for _, scopes := range [][]string{{"c"}, {"a", "c"}, {"0", "a"}, {"a", "b", "cc", "d"}, {"A"}, {"aa"}, {"ccc"}, {"c", "cc"}} {
			mustNotApply(t, api.ErrLost, child(fresh, usedCode, anns, 8, scopes...))
		}
	}
}

// TestChildApplies: with some of the scopes or all, at any time, as often as one likes, and however its code came to be used.
func TestChildApplies(t *testing.T) {
	for _, child := range []func(id, code string, w who, at int, scopes ...string) api.Record{token, refresh} {
		for _, scopes := range [][]string{{"a"}, {"b"}, {"cc"}, {"a", "cc"}, {"a", "b", "cc"}} {
			mustApply(t, child(fresh, usedCode, anns, 0, scopes...))
		}
		mustApply(t, child(fresh, usedCode, anns, 1<<40, "a"), child(fresh2, usedCode, anns, 3, "a"))
		mustApply(t, redeemed(unusedCode), child(fresh, unusedCode, anns, 8, "a", "b"))
		mustApply(t, code(fresh, bobs, 1, "q"), redeemed(fresh), child(fresh2, fresh, bobs, 1, "q"), burned(fresh))
		mustApply(t, child(fresh, usedCode, anns, 8, "a"), burned(usedCode))
		mustApply(t, ended(aSession), child(fresh, othersCode, bobs, 8, "a"))
	}
	mustApply(t, token(fresh, usedCode, anns, 8, "a"), revoked(fresh), refresh(fresh2, usedCode, anns, 8, "a"), turned(fresh2))
}
