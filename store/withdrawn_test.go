package store_test

import (
	"reflect"
	"testing"

	"usher/api"
	"usher/disk"
	"usher/store"
)

// annsOther and bobsApp share a user or a client with anns, and nothing else.
var annsOther, bobsApp = who{"ann", "web"}, who{"bob", "app"}

// TestConsentGivenAgain: the last one stands, the codes of the one before stay as they are.
func TestConsentGivenAgain(t *testing.T) {
	s, d := begun(t,
		tx(consent(anns, 9, "a", "b"), code(id(1), anns, 9, "a", "b")),
		tx(redeemed(id(1)), code(id(2), anns, 9, "a")),
		tx(consent(anns, 3, "c")),
	)
	want := api.Consent{User: "ann", Client: "app", Scopes: []string{"c"}, At: 3}
	for _, s := range []*store.Store{s, mustOpen(t, d)} {
		if got, ok := s.Consent("ann", "app"); !ok || !reflect.DeepEqual(got, want) {
			t.Errorf("P15.4: Consent = %v, %v, want %v", got, ok, want)
		}
		if got := s.Consents("ann"); !reflect.DeepEqual(got, []api.Consent{want}) {
			t.Errorf("P15.4: Consents = %v, want %v", got, want)
		}
	}
	mustCommit(t, s, nil, token(id(3), id(1), anns, 9, "a", "b"), redeemed(id(2)))
	if c := must(s.Code(id(1))); !c.Used || c.Burned {
		t.Errorf("P15.9: a code behind another consent: %v", c)
	}
}

// many is codes of one user and client in every state, three of each.
func many(first byte, w who) [][]api.Record {
	var txs [][]api.Record
	for i := range byte(3) {
		a, b, c := id(first+i), id(first+10+i), id(first+20+i)
		txs = append(txs, tx(code(a, w, 1, "a"), code(b, w, 2, "a"), redeemed(b)), tx(code(c, w, 3, "a"), redeemed(c), burned(c)))
	}
	return txs
}

// TestWithdrawalBurnsItsCodes: all of that user and client, whatever they were, and no others.
func TestWithdrawalBurnsItsCodes(t *testing.T) {
	var txs [][]api.Record
	for i, w := range []who{anns, annsOther, bobsApp, bobs} {
		txs = append(txs, tx(consent(w, i, "a")))
		txs = append(txs, many(byte(1+i*60), w)...)
	}
	s, d := begun(t, txs...)
	before := s.State()
	mustCommit(t, s, nil, withdrawn(anns))
	for _, s := range []*store.Store{s, mustOpen(t, d)} {
		for _, was := range before.Codes {
			want := was
			if anns == (who{was.User, was.Client}) {
				want.Used, want.Burned = true, true
			}
			if got := must(s.Code(was.ID)); !reflect.DeepEqual(got, want) {
				t.Errorf("P15.9: behind the withdrawal of ann and app: %v, was %v", got, was)
			}
		}
		if got := s.State().Consents; len(got) != 3 || got[0].Client != "web" {
			t.Errorf("P15.9: consents %v", got)
		}
	}
}

// TestBehindAWithdrawal: nothing more comes of the codes that were there; what came of them stays as it was, and can still be used up.
func TestBehindAWithdrawal(t *testing.T) {
	s, d := begun(t, estate()...)
	before := s.State()
	mustCommit(t, s, nil, withdrawn(anns))
	for _, id := range []string{unusedCode, usedCode} {
		mustCommit(t, s, api.ErrLost, redeemed(id))
		mustCommit(t, s, api.ErrLost, burned(id))
		mustCommit(t, s, api.ErrLost, token(fresh, id, anns, 60, "a"))
		mustCommit(t, s, api.ErrLost, refresh(fresh, id, anns, 60, "a"))
		mustCommit(t, s, api.ErrTaken, code(id, anns, 60, "a"))
	}
	mustCommit(t, s, api.ErrLost, withdrawn(anns))
	after := s.State()
	if !reflect.DeepEqual(after.Tokens, before.Tokens) || !reflect.DeepEqual(after.Refreshes, before.Refreshes) || !reflect.DeepEqual(after.Sessions, before.Sessions) {
		t.Errorf("P15.9: %+v became %+v", before, after)
	}
	mustCommit(t, s, nil, revoked(aToken), turned(aRefresh))
	mustKeep(t, mustOpen(t, d), s.State())
}

// TestConsentGivenAnew behind a withdrawal: what is new stands, what was burned stays burned.
func TestConsentGivenAnew(t *testing.T) {
	s, d := begun(t, append(estate(), tx(withdrawn(anns)))...)
	mustCommit(t, s, nil, consent(anns, 70, "b"), code(fresh, anns, 70, "b"))
	for _, s := range []*store.Store{s, mustOpen(t, d)} {
		if got, ok := s.Consent("ann", "app"); !ok || got.At != 70 || len(got.Scopes) != 1 || got.Scopes[0] != "b" {
			t.Errorf("P15.4: Consent = %v, %v", got, ok)
		}
		if c := must(s.Code(fresh)); c.Used || c.Burned {
			t.Errorf("P15.9: a code that was given out behind a withdrawal: %v", c)
		}
		if c := must(s.Code(unusedCode)); !c.Used || !c.Burned {
			t.Errorf("P15.9: a code of a consent that was taken back: %v", c)
		}
	}
	mustCommit(t, s, nil, redeemed(fresh), token(fresh2, fresh, anns, 71, "b"))
	mustCommit(t, s, nil, withdrawn(anns))
	mustCommit(t, s, api.ErrLost, token(id(43), fresh, anns, 72, "b"))
	if c := must(s.Code(fresh)); !c.Burned {
		t.Errorf("P15.9: the second withdrawal leaves %v", c)
	}
}

// TestCodesWithoutConsent: none is asked for; but there is nothing that could be taken back.
func TestCodesWithoutConsent(t *testing.T) {
	s, _ := begun(t, tx(code(id(1), anns, 1, "z"), redeemed(id(1)), token(id(2), id(1), anns, 1, "z")))
	mustCommit(t, s, api.ErrLost, withdrawn(anns))
	if c := must(s.Code(id(1))); c.Burned {
		t.Errorf("P15.2: a refused withdrawal burns %v", c)
	}
	mustCommit(t, s, nil, consent(anns, 2, "a"), withdrawn(anns))
	if c := must(s.Code(id(1))); !c.Burned {
		t.Errorf("P15.9: a withdrawal leaves %v", c)
	}
}

// TestAWithdrawalUndone: by a later record that does not apply, by a full disk, by a dead one: every code is again what it was.
func TestAWithdrawalUndone(t *testing.T) {
	txs := append([][]api.Record{tx(consent(anns, 1, "a", "b"))}, many(1, anns)...)
	data, want := row(txs...), stateOf(txs...)
	d := disk.Open(data, len(data)+100)
	s := mustOpen(t, d)
	mustCommit(t, s, api.ErrLost, withdrawn(anns), withdrawn(anns))
	mustKeep(t, s, want)
	mustCommit(t, s, api.ErrTaken, withdrawn(anns), code(fresh, anns, 5, "a"), redeemed(fresh), session(id(1), "ann", 1))
	mustKeep(t, s, want)
	mustCommit(t, s, api.ErrLost, redeemed(id(1)), withdrawn(anns), consent(anns, 9, "c"), burned(id(1)))
	mustKeep(t, s, want)
	mustCommit(t, s, api.ErrFull, consent(anns, 9, "c"), withdrawn(anns), consent(anns, 10, "d"), code(fresh, anns, 5, "a"))
	mustKeep(t, s, want)
	d.Arm(0, 0)
	mustCommit(t, s, api.ErrDead, redeemed(id(1)), withdrawn(anns))
	mustKeep(t, s, want)
	d.Revive()
	mustKeep(t, mustOpen(t, d), want)
}
