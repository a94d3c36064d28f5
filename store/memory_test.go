package store_test

import (
	"reflect"
	"slices"
	"testing"

	"usher/api"
	"usher/disk"
	"usher/store"
)

// roomy is a list with spare room that holds something.
func roomy[T any](list []T, spare T) []T {
	return append(slices.Clone(list), spare, spare, spare)[:len(list)]
}

// full is what a list and its spare room hold.
func full[T any](list []T) []T { return slices.Clone(list[:cap(list)]) }

// handed is a transaction with spare room everywhere.
func handed(tx []api.Record) []api.Record {
	tx = roomy(tx, session(id(77), "spare", 7))
	for i := range tx {
		if tx[i].Scopes != nil {
			tx[i].Scopes = roomy(tx[i].Scopes, "spare")
		}
	}
	return tx
}

// scribble writes a list full, its spare room too, and appends to it.
func scribble[T any](list []T, by T) {
	all := list[:cap(list)]
	for i := range all {
		all[i] = by
	}
	_ = append(list, by)
	if len(list) > 1 {
		_ = append(list[:1], by, by)
	}
}

// scribbleAll writes a transaction full, with its lists of scopes.
func scribbleAll(tx []api.Record) {
	for _, r := range tx {
		scribble(r.Scopes, "#")
	}
	scribble(tx, session(id(78), "scribbled", 1))
}

// TestHandedListsStayAsTheyWere, what stands behind them too, whatever the answer is.
func TestHandedListsStayAsTheyWere(t *testing.T) {
	taken, lost := session(aSession, "ann", 1), ended(fresh)
	for _, change := range changes() {
		for _, mode := range []string{"taken in", "taken", "lost", "bad", "many", "full", "dies"} {
			d := open(row(estate()...))
			if mode == "full" {
				d = disk.Open(row(estate()...), 0)
			}
			s := mustOpen(t, d)
			tx := change[:min(len(change), 3)]
			switch mode {
			case "taken":
				tx = append(slices.Clone(tx), taken)
			case "lost":
				tx = append(slices.Clone(tx), lost)
			case "bad":
				tx = append(slices.Clone(tx), api.Record{})
			case "many":
				tx = append(slices.Clone(tx), lost, lost, lost, lost)
			case "dies":
				d.Arm(1, 1000)
			}
			mustNotBeChanged(t, s, handed(tx))
		}
	}
}

func mustNotBeChanged(t *testing.T, s *store.Store, tx []api.Record) {
	t.Helper()
	before := full(tx)
	var scopes [][]string
	for _, r := range tx {
		scopes = append(scopes, full(r.Scopes))
	}
	s.Commit(tx)
	ask(s)
	if !reflect.DeepEqual(full(tx), before) {
		t.Errorf("P15.10: of %+v is left %+v", before, full(tx))
	}
	for i, r := range tx {
		if !slices.Equal(full(r.Scopes), scopes[i]) {
			t.Errorf("P15.10: of %v is left %v", scopes[i], full(r.Scopes))
		}
	}
}

// TestNothingHandedIsKept: who writes into a transaction behind its Commit changes nothing, neither in memory nor on the disk.
func TestNothingHandedIsKept(t *testing.T) {
	d := disk.New(room)
	s := mustOpen(t, d)
	var done [][]api.Record
	for _, tx := range append(estate(), changes()[4]) {
		own := handed(tx)
		mustCommit(t, s, nil, own...)
		if err := s.Commit(own); err == nil {
			done = append(done, tx) // a consent may be given again
		}
		done = append(done, tx)
		scribbleAll(own)
		mustKeep(t, s, stateOf(done...))
		mustHold(t, d, done...)
	}
	own := handed(changes()[5][1:])
	d.Arm(0, 1000)
	s.Commit(own)
	scribbleAll(own)
	d.Revive()
	mustKeep(t, s, stateOf(done...))
}

// TestOneListInTwoRecords: each thing has its own.
func TestOneListInTwoRecords(t *testing.T) {
	s, _ := begun(t)
	list := roomy([]string{"a", "b"}, "spare")
	mustCommit(t, s, nil, consent(anns, 1, list...), code(id(1), anns, 1, list...), redeemed(id(1)), token(id(2), id(1), anns, 1, list...))
	mustCommit(t, s, nil, refresh(id(3), id(1), anns, 1, list...), token(id(4), id(1), anns, 1, list[:1]...))
	want := s.State()
	if !slices.Equal(want.Tokens[1].Scopes, []string{"a"}) {
		t.Fatalf("P15.4: %v", want.Tokens)
	}
	scribble(list, "#")
	mustKeep(t, s, want)
	for _, l := range listsOf(want) {
		clean := s.State()
		scribble(l, "#")
		mustKeep(t, s, clean)
	}
}

// listsOf is all lists of scopes of a State.
func listsOf(s api.State) [][]string {
	var lists [][]string
	for _, v := range s.Consents {
		lists = append(lists, v.Scopes)
	}
	for _, v := range s.Codes {
		lists = append(lists, v.Scopes)
	}
	for _, v := range s.Tokens {
		lists = append(lists, v.Scopes)
	}
	for _, v := range s.Refreshes {
		lists = append(lists, v.Scopes)
	}
	return lists
}

// TestStateIsNew: no list of it shares anything with another one, of this answer or of another, or with what is kept.
func TestStateIsNew(t *testing.T) {
	s, d := begun(t, append(estate(), changes()[4])...)
	for _, s := range []*store.Store{s, mustOpen(t, d)} {
		want := stateOf(append(estate(), changes()[4])...)
		other := s.State()
		for i := range listsOf(want) {
			got := s.State()
			lists := listsOf(got)
			clean := listsOf(want)
			scribble(lists[i], "#")
			for j := range lists {
				if j != i && !slices.Equal(lists[j], clean[j]) {
					t.Errorf("P15.10: writing into list %d of a State changes list %d", i, j)
				}
			}
			mustKeep(t, s, want)
		}
		got := s.State()
		scribble(got.Sessions, api.Session{ID: "#"})
		scribble(got.Consents, api.Consent{User: "#"})
		scribble(got.Codes, api.Code{ID: "#"})
		scribble(got.Tokens, api.Token{ID: "#"})
		scribble(got.Refreshes, api.Refresh{ID: "#"})
		mustKeep(t, s, want)
		if !isSame(other, want) {
			t.Error("P15.10: writing into a State changes another one")
		}
	}
}

// TestQueriesAreNew: writing into what a query answers changes no other answer.
func TestQueriesAreNew(t *testing.T) {
	s, d := begun(t, estate()...)
	want := stateOf(estate()...)
	for _, s := range []*store.Store{s, mustOpen(t, d)} {
		state, list := s.State(), s.Consents("ann")
		for _, answer := range [][]string{
			must(s.Consent("ann", "app")).Scopes, must(s.Code(usedCode)).Scopes, must(s.Token(aToken)).Scopes, must(s.Refresh(aRefresh)).Scopes,
			s.Consents("ann")[0].Scopes, s.Consents("ann")[1].Scopes,
		} {
			scribble(answer, "#")
			mustKeep(t, s, want)
		}
		twice := s.Consents("ann")
		scribble(twice[0].Scopes, "#")
		if !slices.Equal(twice[1].Scopes, []string{"a"}) {
			t.Errorf("P15.10: writing into one consent changes the next one: %v", twice)
		}
		scribble(twice, api.Consent{User: "#"})
		mustKeep(t, s, want)
		if !isSame(state, want) || !isSame(api.State{Consents: list}, api.State{Consents: want.Consents[:2]}) {
			t.Error("P15.10: writing into an answer changes another one")
		}
	}
}

// TestAnswersStayAsTheyWere when what is kept changes.
func TestAnswersStayAsTheyWere(t *testing.T) {
	s, _ := begun(t, estate()...)
	state, list, before := s.State(), s.Consents("ann"), must(s.Code(unusedCode))
	mustCommit(t, s, nil, consent(anns, 80, "z"), withdrawn(anns), ended(aSession), revoked(aToken))
	if !isSame(state, stateOf(estate()...)) || len(list) != 2 || list[0].At != 3 || before.Used || before.Burned {
		t.Error("P15.10: a Commit changes an answer that was given")
	}
}
