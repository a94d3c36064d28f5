package renew_test

import (
	"bytes"
	"fmt"
	"math"
	"slices"
	"strings"
	"testing"

	"usher/api"
)

// A life is two Desks and two Tills over one store that was empty at first, with others who write into it, and power failures; and beside the model a ledger of what was answered. P18.3, P18.4, P18.5 and P18.7 are asked of the ledger, behind every step.
type life struct {
	*bench
	steps    []string
	turned   map[string]int         // how many times a refresh token was turned
	made     map[string]api.Refresh // of each token and refresh token that a Renew has answered: what was shown for it
	ended    map[string]bool        // the tokens that must count no more
	burned   map[string]bool        // the codes of which nothing may count any more
	chain    []string               // the refresh tokens, in the order in which they came
	sure     []byte                 // what is sure to lie on the disk
	underWay []api.Record           // what was being written when the power failed
	isTills  bool                   // what was being written then was a Till's
}

func newLife(t *testing.T, c api.Config) *life {
	t.Helper()
	v := &life{bench: newBench(t, c, 2), turned: map[string]int{}, made: map[string]api.Refresh{}, ended: map[string]bool{}, burned: map[string]bool{}}
	v.counts = false
	return v
}

func (v *life) note(format string, args ...any) {
	v.steps = append(v.steps, fmt.Sprintf(format, args...))
}

func (v *life) fail(format string, args ...any) {
	v.t.Helper()
	v.t.Fatalf("%s, behind\n%s", fmt.Sprintf(format, args...), strings.Join(v.steps, "\n"))
}

// step plays a call and holds it against the ledger.
func (v *life) step(c call) answer {
	v.t.Helper()
	v.note("%+v", c)
	state, wasDead := v.store.State(), v.disk.Dead() || v.isDead
	if c.name != "Renew" && c.name != "Live" {
		return v.tillStep(c, state, wasDead)
	}
	_, _, tx := v.expect(c)
	counted := v.counting(state)
	got := v.play(c)
	v.lay(wasDead, got.err, tx)
	if c.name == "Renew" {
		v.enterRenew(c, state, counted, got)
	}
	v.check()
	return got
}

// tillStep makes a call of a Till: what it answers is another layer's promise.
func (v *life) tillStep(c call, state api.State, wasDead bool) answer {
	v.t.Helper()
	got := v.do(c)
	v.draws = v.draws[len(v.draws)-v.source.Left():]
	v.isTills = v.isTills || got.err == api.ErrDead && !wasDead
	v.isDead = v.isDead || got.err == api.ErrDead
	v.lay(wasDead, got.err, nil)
	switch c.name {
	case "Token":
		v.enterToken(c, state, got)
	case "Revoke":
		v.enterRevoke(c, state, got)
	}
	v.check()
	return got
}

// lay keeps in mind what is sure to lie on the disk behind a transaction, and what may.
func (v *life) lay(wasDead bool, err error, tx []api.Record) {
	switch {
	case wasDead:
	case err == api.ErrDead:
		v.underWay = tx
	default:
		v.sure = look(v.disk)
	}
}

// others lets somebody else write, whether it is refused or not.
func (v *life) others(tx ...api.Record) {
	v.t.Helper()
	v.note("others write %+v", tx)
	wasDead := v.disk.Dead() || v.isDead
	err := v.store.Commit(tx)
	v.lay(wasDead, err, tx)
	v.isDead = v.isDead || err == api.ErrDead
	v.check()
}

// moments are times at which something begins or ends to count or to live.
func (v *life) moments(at int) []int {
	return []int{math.MinInt, 0, at, at + v.config.TokenLife - 1, at + v.config.TokenLife, at + v.config.RefreshLife - 1, at + v.config.RefreshLife, math.MaxInt}
}

// counting is, for each token and refresh token of a state, at which moments it counts or lives.
func (v *life) counting(state api.State) map[string][]bool {
	all := map[string][]bool{}
	for _, token := range state.Tokens {
		for _, now := range v.moments(token.At) {
			all[token.ID] = append(all[token.ID], v.tills[0].Active(now, token.ID))
		}
	}
	for _, refresh := range state.Refreshes {
		for _, now := range v.moments(refresh.At) {
			all[refresh.ID] = append(all[refresh.ID], v.desks[0].Live(now, refresh.ID))
		}
	}
	return all
}

// enterRenew enters a renewal, or that a used refresh token was shown again. The state, and what counted, are those ahead of the call.
func (v *life) enterRenew(c call, state api.State, counted map[string][]bool, got answer) {
	v.t.Helper()
	old, found := refreshOf(state, valueOf(c.params, "refresh_token"))
	client, hasShown, reason := v.tills[c.desk].Caller(c.auth, c.params)
	isOwn := found && reason == "" && client == old.Client && (hasShown || client == "app" || client == "spa")
	if got.err == nil && got.outcome.Status == 200 {
		v.turned[old.ID]++
		switch {
		case v.turned[old.ID] > 1 || old.Used:
			v.fail("P18.3: the refresh token has been turned %d times", v.turned[old.ID])
		case !isOwn || !v.lives(state, c.now, old.ID):
			v.fail("P18.3: %+v is turned for %s", old, client)
		}
		v.enterMade(c, state, old, counted, got.outcome.Members)
		return
	}
	isWellFormed := c.now >= 0 && c.now <= api.MaxNow && valueOf(c.params, "grant_type") == "refresh_token" && len(valuesOf(c.params, "scope")) < 2
	if isOwn && isWellFormed && old.Used && got.err == nil {
		v.burned[old.Code] = true
	}
}

// enterMade enters the token and the refresh token of a renewal. They count, and so does all that did.
func (v *life) enterMade(c call, state api.State, old api.Refresh, counted map[string][]bool, members []api.Member) {
	v.t.Helper()
	token, refresh := members[0].Text, members[3].Text
	v.made[token], v.made[refresh] = old, old
	if !v.tills[1-c.desk].Active(c.now, token) || !v.desks[1-c.desk].Live(c.now, refresh) {
		v.fail("P18.6: what was given out does not count")
	}
	if got, _ := v.store.Token(token); strings.Join(got.Scopes, " ") != members[4].Text {
		v.fail("P18.1: the scopes of %+v were told as %s", got, members[4].Text)
	}
	for id, does := range v.counting(state) {
		if id != old.ID && !slices.Equal(does, counted[id]) {
			v.fail("P18.7: %s counted %v and counts %v", id, counted[id], does)
		}
		if id == old.ID && slices.Contains(does, true) {
			v.fail("P18.3: the refresh token lives on")
		}
	}
}

// enterToken enters that a used code was shown again.
func (v *life) enterToken(c call, state api.State, got answer) {
	code, found := codeOf(state, valueOf(c.params, "code"))
	client, _, _ := v.tills[c.desk].Caller(c.auth, c.params)
	if found && code.Used && client == code.Client && got.err == nil && got.outcome.Error == "invalid_grant" {
		v.burned[code.ID] = true
	}
}

// enterRevoke enters what a Revoke has ended, of what the state ahead of it had.
func (v *life) enterRevoke(c call, state api.State, got answer) {
	if got.err != nil || got.outcome.Status != 200 {
		return
	}
	revoked := valueOf(c.params, "token")
	if refresh, found := refreshOf(state, revoked); found {
		v.burned[refresh.Code] = true
	}
	if slices.ContainsFunc(state.Tokens, func(token api.Token) bool { return token.ID == revoked }) {
		v.ended[revoked] = true
	}
}

// check asks the ledger of all that the store has.
func (v *life) check() {
	v.t.Helper()
	state := v.store.State()
	for _, token := range state.Tokens {
		if v.burned[token.Code] || v.ended[token.ID] {
			v.mustHaveEnded(token.ID, token.At)
		}
		v.mustNotHaveGrown(state, token.ID, token.Code, token.Scopes, false)
	}
	for _, refresh := range state.Refreshes {
		if v.burned[refresh.Code] || v.turned[refresh.ID] > 0 {
			v.mustHaveEnded(refresh.ID, refresh.At)
		}
		v.mustNotHaveGrown(state, refresh.ID, refresh.Code, refresh.Scopes, true)
		if !slices.Contains(v.chain, refresh.ID) {
			v.chain = append(v.chain, refresh.ID)
		}
		for _, now := range v.moments(refresh.At) {
			if v.desks[1].Live(now, refresh.ID) != v.lives(state, now, refresh.ID) {
				v.fail("P18.2: does %+v live at %d? want %v", refresh, now, v.lives(state, now, refresh.ID))
			}
		}
	}
	for id := range v.made {
		if !isKnown(state, id) {
			v.fail("P18.1: what was answered is gone: %s", id)
		}
	}
}

// mustHaveEnded fails unless what has that identifier counts no more, at whatever time, Till and Desk.
func (v *life) mustHaveEnded(id string, at int) {
	v.t.Helper()
	for i := range v.desks {
		for _, now := range v.moments(at) {
			if v.tills[i].Active(now, id) || v.desks[i].Live(now, id) {
				v.fail("P18.3, P18.4: at the Desk %d and the time %d counts %s", i, now, id)
			}
		}
	}
}

// mustNotHaveGrown fails unless these scopes are among those of what was shown, if a Renew has made it, and among those of the code; a refresh token's are not fewer either.
func (v *life) mustNotHaveGrown(state api.State, id, code string, scopes []string, isRefresh bool) {
	v.t.Helper()
	first, _ := codeOf(state, code)
	shown, isMade := v.made[id]
	switch {
	case !isWithin(scopes, first.Scopes):
		v.fail("P18.5: %s has %v, its code %v", id, scopes, first.Scopes)
	case isMade && (shown.Code != code || !isWithin(scopes, shown.Scopes)):
		v.fail("P18.5: %s has %v, what was shown for it %+v", id, scopes, shown)
	case isMade && isRefresh && !slices.Equal(scopes, shown.Scopes):
		v.fail("P18.5: %s has become narrower: %v", id, scopes)
	}
}

// open lets the machine boot, however often an arm kills that. On the disk it finds what was there, or that and what was under way.
func (v *life) open() {
	v.t.Helper()
	v.note("open")
	for !v.boot() {
		v.note("open again")
	}
	got := look(v.disk)
	isWhole := v.underWay != nil && bytes.Equal(got, append(slices.Clone(v.sure), frame(v.underWay)...))
	if !bytes.Equal(got, v.sure) && !isWhole && !(v.isTills && bytes.HasPrefix(got, v.sure)) {
		v.fail("layer 18: %q is found, want %q, or that and %+v", got, v.sure, v.underWay)
	}
	v.sure, v.underWay, v.isTills = got, nil, false
	v.check()
}

func (v *life) crash(keep int) {
	v.note("crash, %d kept", keep)
	v.disk.Crash(keep)
}

func (v *life) arm(after, keep int) {
	v.note("arm %d, %d", after, keep)
	v.disk.Arm(after, keep)
}

func (v *life) wait(draws ...byte) {
	v.note("draws %d", draws)
	v.push(draws...)
}

// newest is the refresh token that came last; some other text, if there is none.
func (v *life) newest() string {
	if len(v.chain) == 0 {
		return "x"
	}
	return v.chain[len(v.chain)-1]
}

// oldest is the refresh token that came first; some other text, if there is none.
func (v *life) oldest() string {
	if len(v.chain) == 0 {
		return "x"
	}
	return v.chain[0]
}
