package store_test

import (
	"slices"
	"strings"
	"testing"

	"usher/api"
	"usher/disk"
	"usher/store"
)

// bad is records that may not be.
func bad() []api.Record {
	return []api.Record{
		{}, {Kind: 12, ID: fresh}, {Kind: -1}, session("x", "ann", 1), session(fresh, "", 1), session(fresh, "ann", -1), session(fresh, "ann", 1<<40+1),
		code(fresh, anns, 1), code(fresh, anns, 1, "b", "a"), code(fresh, who{"a n", "app"}, 1, "a"), redeemed(""), burned(fresh[:42]), consent(who{"", "app"}, 1, "a"),
		{Kind: api.RecEnded, ID: aSession, At: 1}, {Kind: api.RecWithdrawn, User: "ann", Client: "app", ID: fresh}, token(fresh, "x", anns, 1, "a"),
	}
}

// TestPacksErrorComesFirst: ahead of what does not apply, of a full disk, and of a dead one.
func TestPacksErrorComesFirst(t *testing.T) {
	many := slices.Repeat(tx(ended(fresh)), 5)
	for _, state := range []string{"alive", "full", "dead", "dead store"} {
		s, d := begun(t, estate()...)
		before := s.State()
		switch state {
		case "full":
			d = disk.Open(row(estate()...), 0)
			s = mustOpen(t, d)
		case "dead":
			d.Crash(0)
		case "dead store":
			d.Crash(0)
			mustCommit(t, s, api.ErrDead, session(fresh, "ann", 1))
			d.Revive()
		}
		mustCommit(t, s, api.ErrArg)
		mustCommit(t, s, api.ErrArg, []api.Record{}...)
		mustCommit(t, s, api.ErrMany, many...)
		for _, r := range bad() {
			mustCommit(t, s, api.ErrArg, r)
			mustCommit(t, s, api.ErrArg, session(fresh, "ann", 1), r)
			mustCommit(t, s, api.ErrArg, ended(fresh), r)
			mustCommit(t, s, api.ErrArg, session(aSession, "ann", 1), ended(fresh), r)
			mustCommit(t, s, api.ErrMany, append(slices.Clone(many), r)...)
			mustCommit(t, s, api.ErrMany, r, r, r, r, r)
		}
		mustKeep(t, s, before)
		mustHold(t, d, estate()...)
	}
}

// TestTheFirstThatDoesNotApply gives the reason, whatever stands behind it.
func TestTheFirstThatDoesNotApply(t *testing.T) {
	lost, taken := ended(fresh2), session(aSession, "ann", 1)
	good := [][]api.Record{nil, tx(session(fresh, "ann", 1)), tx(session(fresh, "ann", 1), ended(fresh))}
	for _, ahead := range good {
		mustNotApply(t, api.ErrLost, append(slices.Clone(ahead), lost, taken)...)
		mustNotApply(t, api.ErrTaken, append(slices.Clone(ahead), taken, lost)...)
		mustNotApply(t, api.ErrLost, append(slices.Clone(ahead), lost, ended(aSession))...)
		mustNotApply(t, api.ErrTaken, append(slices.Clone(ahead), taken, ended(aSession))...)
	}
}

// TestReasonsComeAheadOfTheLog: on a disk that is full, dead or about to die, and for a store that is dead.
func TestReasonsComeAheadOfTheLog(t *testing.T) {
	refused := func(s *store.Store) {
		t.Helper()
		before := s.State()
		mustCommit(t, s, api.ErrTaken, session(aSession, "ann", 1))
		mustCommit(t, s, api.ErrLost, ended(anEnded))
		mustCommit(t, s, api.ErrLost, ended(aSession), withdrawn(anns), ended(aSession))
		mustKeep(t, s, before)
	}
	full := disk.Open(row(estate()...), 0)
	s := mustOpen(t, full)
	refused(s)
	mustCommit(t, s, api.ErrFull, ended(aSession))
	refused(s)

	s, d := begun(t, estate()...)
	d.Arm(0, 0)
	refused(s)
	if d.Dead() {
		t.Fatal("P15.2: a refused transaction is an operation of the disk")
	}
	mustCommit(t, s, api.ErrDead, ended(aSession))
	refused(s)
	d.Revive()
	refused(s)
	mustCommit(t, s, api.ErrDead, ended(aSession))
	refused(s)
	mustHold(t, d, estate()...)
}

// changes is transactions that apply behind estate, of one to four records, of every kind.
func changes() [][]api.Record {
	return [][]api.Record{
		tx(session(fresh, "ann", 1)),
		tx(ended(aSession)),
		tx(consent(anns, 50, "q")),
		tx(consent(bobs, 50, "q"), code(fresh, bobs, 50, "q")),
		tx(redeemed(unusedCode), token(fresh, unusedCode, anns, 51, "a"), refresh(fresh2, unusedCode, anns, 51, "b")),
		tx(turned(aRefresh), token(fresh, usedCode, anns, 52, "a"), refresh(fresh2, usedCode, anns, 52, "a")),
		tx(revoked(aToken)),
		tx(burned(usedCode)),
		tx(withdrawn(anns)),
		tx(withdrawn(anns), consent(anns, 53, "c"), code(fresh, anns, 53, "c")),
		tx(consent(anns, 54, "d"), withdrawn(anns), consent(anns, 55, "e"), withdrawn(anns)),
		tx(code(fresh, anns, 56, "a"), redeemed(fresh), burned(fresh), withdrawn(anns)),
		tx(code(fresh, anns, 57, "a"), redeemed(fresh), token(fresh2, fresh, anns, 57, "a"), revoked(fresh2)),
	}
}

// TestLaterRecordsSeeEarlierOnes: each of these stands only because of what stands ahead of it.
func TestLaterRecordsSeeEarlierOnes(t *testing.T) {
	for _, tx := range changes() {
		mustApply(t, tx...)
	}
	mustNotApply(t, api.ErrLost, ended(fresh), session(fresh, "ann", 1))
	mustNotApply(t, api.ErrLost, token(fresh, unusedCode, anns, 1, "a"), redeemed(unusedCode))
	mustNotApply(t, api.ErrLost, burned(unusedCode), redeemed(unusedCode))
	mustNotApply(t, api.ErrLost, withdrawn(bobs), consent(bobs, 1, "a"))
	mustNotApply(t, api.ErrLost, code(fresh, anns, 1, "a"), withdrawn(anns), redeemed(fresh))
	mustApply(t, withdrawn(anns), code(fresh, anns, 1, "a"), redeemed(fresh), token(fresh2, fresh, anns, 1, "a"))
}

// TestNothingOfARefusedTransaction: every part of every change, behind which something does not apply.
func TestNothingOfARefusedTransaction(t *testing.T) {
	for _, change := range changes() {
		for n := range min(len(change), 3) + 1 {
			mustNotApply(t, api.ErrTaken, append(change[:n:n], session(aSession, "ann", 1))...)
			mustNotApply(t, api.ErrLost, append(change[:n:n], ended(anEnded))...)
		}
	}
}

// TestNothingOfWhatTheLogRefuses: the disk has no room, or is dead; each change, each anew.
func TestNothingOfWhatTheLogRefuses(t *testing.T) {
	data, want := row(estate()...), stateOf(estate()...)
	for _, change := range changes() {
		for missing := 1; missing <= len(frame(change)); missing += 7 {
			d := disk.Open(data, len(data)+len(frame(change))-missing)
			s := mustOpen(t, d)
			for range 2 {
				mustCommit(t, s, api.ErrFull, change...)
				mustKeep(t, s, want)
				mustLie(t, d, data)
			}
		}
		d := open(data)
		s := mustOpen(t, d)
		d.Crash(0)
		for range 2 {
			mustCommit(t, s, api.ErrDead, change...)
			mustKeep(t, s, want)
			mustLie(t, d, data)
		}
	}
}

// TestFullIsNotTheEnd: what has room goes in, behind one that had none, to the last byte.
func TestFullIsNotTheEnd(t *testing.T) {
	small, great := tx(ended(aSession)), tx(code(fresh, anns, 1, "a"))
	data := row(estate()...)
	d := disk.Open(data, len(data)+len(frame(small)))
	s := mustOpen(t, d)
	mustCommit(t, s, api.ErrFull, great...)
	if s.Known(fresh) {
		t.Error("P15.2: changed behind ErrFull")
	}
	mustCommit(t, s, nil, small...)
	mustCommit(t, s, api.ErrFull, great...)
	mustCommit(t, s, api.ErrFull, revoked(aToken))
	mustKeep(t, s, stateOf(append(estate(), small)...))
	mustHold(t, d, append(estate(), small)...)
	mustKeep(t, mustOpen(t, d), stateOf(append(estate(), small)...))
}

// TestFullIsAnOperation: the Append is asked, and no Sync behind it.
func TestFullIsAnOperation(t *testing.T) {
	d := disk.New(10)
	s := mustOpen(t, d)
	mustNeed(t, d, 1, func() { mustCommit(t, s, api.ErrFull, session(fresh, "ann", 1)) })
	mustCommit(t, s, api.ErrFull, session(fresh, "ann", 1))
}

// greatest is a transaction of the most bytes.
func greatest() []api.Record {
	scopes := make([]string, 16)
	for i := range scopes {
		scopes[i] = string(rune('a'+i)) + strings.Repeat("s", 31)
	}
	w := who{strings.Repeat("u", 64), strings.Repeat("k", 64)}
	var l []api.Record
	for i := range 4 {
		r := code(id(byte(60+i)), w, 1<<40, scopes...)
		r.Redirect = address + strings.Repeat("p", 512-len(address))
		r.Challenge = strings.Repeat("c", 128)
		l = append(l, r)
	}
	return l
}

// TestTheGreatestTransaction has just the room that the document names.
func TestTheGreatestTransaction(t *testing.T) {
	d := disk.New(5433)
	s := mustOpen(t, d)
	mustCommit(t, s, nil, greatest()...)
	mustKeep(t, s, stateOf(greatest()))
	mustHold(t, d, greatest())
	if got, _ := d.Look(); len(got) != 5433 {
		t.Errorf("P15.2: it takes %d bytes", len(got))
	}
	mustKeep(t, mustOpen(t, d), stateOf(greatest()))
	s = mustOpen(t, disk.New(5432))
	mustCommit(t, s, api.ErrFull, greatest()...)
	mustKeep(t, s, api.State{})
}

// TestEveryTransactionIsOneFrame: the log is the packed transactions, each put there once.
func TestEveryTransactionIsOneFrame(t *testing.T) {
	s, d := begun(t)
	var done [][]api.Record
	for i, tx := range append(estate(), changes()[4:7]...) {
		if i == 8 { // the changes of which each stands on estate alone share their fresh identifiers
			for j := range tx {
				tx[j] = renamed(tx[j])
			}
		}
		mustNeed(t, d, 2, func() { mustCommit(t, s, nil, tx...) })
		done = append(done, tx)
		mustHold(t, d, done...)
		mustKeep(t, s, stateOf(done...))
	}
}

// renamed is r with other fresh identifiers.
func renamed(r api.Record) api.Record {
	switch r.ID {
	case fresh:
		r.ID = id(43)
	case fresh2:
		r.ID = id(44)
	}
	return r
}
