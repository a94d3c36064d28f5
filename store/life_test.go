package store_test

import (
	"fmt"
	"slices"
	"testing"

	"usher/api"
	"usher/disk"
	"usher/store"
)

// A life is a disk with the stores on it, and beside them the model of what they must keep. Behind every step what is kept is held against the model and against P15.9.
type life struct {
	t       *testing.T
	room    int
	disk    *disk.Disk
	store   *store.Store
	isDead  bool    // the store was told ErrDead
	sure    model   // what the store keeps
	perhaps []model // what the next Open may find in its place: none, or the one with the transaction that was under way
	last    api.State
	steps   []string
}

func newLife(t *testing.T, room int) *life {
	t.Helper()
	v := &life{t: t, room: room, disk: disk.New(room)}
	v.store = mustOpen(t, v.disk)
	return v
}

func (v *life) note(format string, args ...any) {
	v.steps = append(v.steps, fmt.Sprintf(format, args...))
}

func (v *life) fail(format string, args ...any) {
	v.t.Helper()
	v.t.Fatalf("%s, behind %q", fmt.Sprintf(format, args...), v.steps)
}

// commit hands a transaction of records that may be to the store, and answers what it answered.
func (v *life) commit(tx ...api.Record) error {
	v.t.Helper()
	v.note("commit %v", tx)
	lies, _ := v.disk.Look()
	wasDead := v.disk.Dead()
	next, reason := v.sure.with(tx)
	err := v.store.Commit(tx)
	behind, _ := v.disk.Look()
	switch {
	case reason != nil && (err != reason || len(behind) != len(lies) || v.disk.Dead() != wasDead):
		v.fail("P15.2: it does not apply (%v): %v", reason, err)
	case reason != nil:
	case (v.isDead || wasDead) && (err != api.ErrDead || len(behind) != len(lies)):
		v.fail("P15.3: store dead %v, disk dead %v: %v", v.isDead, wasDead, err)
	case v.isDead || wasDead:
		v.isDead = true
	case v.disk.Dead() && err != api.ErrDead:
		v.fail("P15.2: the disk has died: %v", err)
	case v.disk.Dead():
		v.isDead, v.perhaps = true, []model{next}
	case len(lies)+len(frame(tx)) > v.room && (err != api.ErrFull || len(behind) != len(lies)):
		v.fail("P15.2: there is no room: %v", err)
	case len(lies)+len(frame(tx)) > v.room:
	case err != nil:
		v.fail("P15.2: it applies: %v", err)
	default:
		v.sure = next
	}
	v.hold(v.sure, tx)
	return err
}

// open opens the disk, if it can.
func (v *life) open() bool {
	v.t.Helper()
	v.note("open")
	v.disk.Revive()
	s, err := store.Open(v.disk)
	if err == api.ErrDead && s == nil && v.disk.Dead() {
		return false
	}
	if err != nil || s == nil {
		v.fail("P15.1: Open = %v, %v", s, err)
	}
	got := s.State()
	had := len(v.sure)
	if len(v.perhaps) > 0 && !isSame(got, v.sure.state()) {
		v.sure = v.perhaps[0]
	}
	v.store, v.isDead, v.perhaps = s, false, nil
	v.hold(v.sure, v.sure[had:])
	again := mustOpen(v.t, disk.Open(look(v.disk), 0))
	if !isSame(again.State(), got) {
		v.fail("P15.8: %+v is found the second time, want %+v", again.State(), got)
	}
	return true
}

func look(d *disk.Disk) []byte {
	data, _ := d.Look()
	return data
}

// openAtLast opens again and again, however often an arm kills that.
func (v *life) openAtLast() {
	v.t.Helper()
	for range 50 {
		if v.open() {
			return
		}
	}
	v.fail("P15.1: no Open comes to an end")
}

func (v *life) arm(after, keep int) {
	v.note("arm %d, %d", after, keep)
	v.disk.Arm(after, keep)
}

func (v *life) crash(keep int) {
	v.note("crash, %d kept", keep)
	v.disk.Crash(keep)
	v.hold(v.sure, nil)
}

func (v *life) revive() {
	v.note("revive")
	v.disk.Revive()
	v.hold(v.sure, nil)
}

// hold fails unless the store keeps what the model keeps, and that keeps to P15.9, the records of this step being these.
func (v *life) hold(want model, records []api.Record) {
	v.t.Helper()
	got := v.store.State()
	if !isSame(got, want.state()) {
		v.fail("P15.5, P15.7: %+v is kept, want %+v", got, want.state())
	}
	if fault := unsound(got); fault != "" {
		v.fail("P15.9: %s in %+v", fault, got)
	}
	if fault := unfollowed(v.last, got, records); fault != "" {
		v.fail("P15.9: %s: %+v became %+v", fault, v.last, got)
	}
	v.last = got
}

// unsound is what P15.9 does not let stand in any State; nothing, if it is sound.
func unsound(s api.State) string {
	ids := idsOf(s)
	slices.Sort(ids)
	if len(slices.Compact(slices.Clone(ids))) != len(ids) {
		return "an identifier stands twice"
	}
	for _, c := range s.Codes {
		if c.Burned && !c.Used {
			return "a burned code is not used"
		}
	}
	for _, t := range s.Tokens {
		if !comesOf(s, t.Code, who{t.User, t.Client}, t.Scopes) {
			return "a token without its code"
		}
	}
	for _, r := range s.Refreshes {
		if !comesOf(s, r.Code, who{r.User, r.Client}, r.Scopes) {
			return "a refresh token without its code"
		}
	}
	return ""
}

func comesOf(s api.State, code string, w who, scopes []string) bool {
	c, ok := found(s.Codes, func(c api.Code) bool { return c.ID == code })
	return ok && c.Used && w == who{c.User, c.Client} && holds(c.Scopes, scopes)
}

// unfollowed is what P15.9 does not let become of one State in the next one, by these records; nothing, if it may.
func unfollowed(before, after api.State, records []api.Record) string {
	for _, s := range before.Sessions {
		next, ok := found(after.Sessions, func(n api.Session) bool { return n.ID == s.ID })
		if !ok || next.User != s.User || next.At != s.At || s.Ended && !next.Ended {
			return "a session is gone, another one, or not ended any more"
		}
	}
	for _, c := range before.Codes {
		next, ok := found(after.Codes, func(n api.Code) bool { return n.ID == c.ID })
		if !ok || c.Used && !next.Used || c.Burned && !next.Burned {
			return "a code is gone, or not used or burned any more"
		}
		if c.Burned && children(before, c.ID) != children(after, c.ID) {
			return "a burned code has got a token"
		}
		next.Used, next.Burned = c.Used, c.Burned
		if !isSame(api.State{Codes: []api.Code{c}}, api.State{Codes: []api.Code{next}}) {
			return "a code is another one"
		}
	}
	if fault := unfollowedTokens(before, after); fault != "" {
		return fault
	}
	return unfollowedConsents(before, after, records)
}

// children counts what has come of a code.
func children(s api.State, code string) int {
	n := 0
	for _, t := range s.Tokens {
		if t.Code == code {
			n++
		}
	}
	for _, r := range s.Refreshes {
		if r.Code == code {
			n++
		}
	}
	return n
}

func unfollowedTokens(before, after api.State) string {
	for _, t := range before.Tokens {
		next, ok := found(after.Tokens, func(n api.Token) bool { return n.ID == t.ID })
		if !ok || t.Revoked && !next.Revoked {
			return "a token is gone, or not revoked any more"
		}
		next.Revoked = t.Revoked
		if !isSame(api.State{Tokens: []api.Token{t}}, api.State{Tokens: []api.Token{next}}) {
			return "a token is another one"
		}
	}
	for _, r := range before.Refreshes {
		next, ok := found(after.Refreshes, func(n api.Refresh) bool { return n.ID == r.ID })
		if !ok || r.Used && !next.Used {
			return "a refresh token is gone, or not used any more"
		}
		next.Used = r.Used
		if !isSame(api.State{Refreshes: []api.Refresh{r}}, api.State{Refreshes: []api.Refresh{next}}) {
			return "a refresh token is another one"
		}
	}
	return ""
}

func unfollowedConsents(before, after api.State, records []api.Record) string {
	names := func(kind int, w who) bool {
		return slices.ContainsFunc(records, func(r api.Record) bool { return r.Kind == kind && w == who{r.User, r.Client} })
	}
	for _, c := range before.Consents {
		w := who{c.User, c.Client}
		next, ok := found(after.Consents, func(n api.Consent) bool { return w == who{n.User, n.Client} })
		if ok && !isSame(api.State{Consents: []api.Consent{c}}, api.State{Consents: []api.Consent{next}}) && !names(api.RecConsent, w) {
			return "a consent is another one, and none was given"
		}
		if ok {
			continue
		}
		if !names(api.RecWithdrawn, w) {
			return "a consent is gone that was not taken back"
		}
		for _, was := range before.Codes {
			now, _ := found(after.Codes, func(n api.Code) bool { return n.ID == was.ID })
			if w == (who{was.User, was.Client}) && !(now.Used && now.Burned) {
				return "a code has outlived its consent"
			}
		}
	}
	return ""
}
