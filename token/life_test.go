package token_test

import (
	"bytes"
	"fmt"
	"math"
	"slices"
	"strings"
	"testing"

	"usher/api"
)

// A life is two Tills over one store that was empty at first, with others who write into it, and power failures; and beside the model a ledger of what was answered. P17.7, P17.8 and P17.9 are asked of the ledger, behind every step.
type life struct {
	*bench
	steps    []string
	turned   map[string]int    // how many times a code was turned into a token
	told     map[string]string // the codes of the tokens that were answered
	ended    map[string]bool   // the tokens that must count no more
	burned   map[string]bool   // the codes whose tokens must count no more
	sure     []byte            // what is sure to lie on the disk
	underWay []api.Record      // what was being written when the power failed
}

func newLife(t *testing.T, c api.Config) *life {
	t.Helper()
	v := &life{bench: newBench(t, c, 2), turned: map[string]int{}, told: map[string]string{}, ended: map[string]bool{}, burned: map[string]bool{}}
	v.counts = false
	return v
}

func (v *life) note(format string, args ...any) {
	v.steps = append(v.steps, fmt.Sprintf(format, args...))
}

func (v *life) fail(format string, args ...any) {
	v.t.Helper()
	v.t.Fatalf("%s, behind\n%s", fmt.Sprintf(format, args...), strings.Join(v.steps, "\n"))
}

// step plays a call and holds it against the ledger.
func (v *life) step(c call) answer {
	v.t.Helper()
	v.note("%+v", c)
	state, wasDead := v.store.State(), v.disk.Dead() || v.isDead
	_, _, tx := v.expect(c)
	got := v.play(c)
	v.lay(wasDead, got.err, tx)
	switch c.name {
	case "Token":
		v.enterToken(c, state, got)
	case "Revoke":
		v.enterRevoke(c, state, got)
	}
	v.check()
	return got
}

// lay keeps in mind what is sure to lie on the disk behind a transaction, and what may.
func (v *life) lay(wasDead bool, err error, tx []api.Record) {
	switch {
	case wasDead:
	case err == api.ErrDead:
		v.underWay = tx
	default:
		v.sure = look(v.disk)
	}
}

// others lets somebody else write, whether it is refused or not.
func (v *life) others(tx ...api.Record) {
	v.t.Helper()
	v.note("others write %+v", tx)
	wasDead := v.disk.Dead() || v.isDead
	err := v.store.Commit(tx)
	v.lay(wasDead, err, tx)
	v.isDead = v.isDead || err == api.ErrDead
	v.check()
}

// enterToken enters a token for a code, or that a used code was shown again. The state is that ahead of the call.
func (v *life) enterToken(c call, state api.State, got answer) {
	v.t.Helper()
	code, found := codeOf(state, valueOf(c.params, "code"))
	client, _, _ := callerOf(v.config, c.auth, c.params)
	isOwn := found && client == code.Client
	if got.err == nil && got.outcome.Status == 200 {
		v.turned[code.ID]++
		v.told[got.outcome.Members[0].Text] = code.ID
		shown := valueOf(c.params, "code_verifier")
		switch {
		case v.turned[code.ID] > 1 || code.Used:
			v.fail("P17.7: the code has been turned %d times", v.turned[code.ID])
		case !isOwn || c.now >= code.At+v.config.CodeLife || valueOf(c.params, "redirect_uri") != code.Redirect || !isVerifier(shown) || challengeOf(shown) != code.Challenge:
			v.fail("P17.7: %+v is turned for %s", code, client)
		}
	}
	if isOwn && code.Used && got.err == nil && got.outcome.Error == "invalid_grant" {
		v.burned[code.ID] = true
	}
}

// enterRevoke enters what a Revoke has ended, of what the state ahead of it had.
func (v *life) enterRevoke(c call, state api.State, got answer) {
	if got.err != nil || got.outcome.Status != 200 {
		return
	}
	for _, token := range state.Tokens {
		if token.ID == valueOf(c.params, "token") {
			v.ended[token.ID] = true
		}
	}
	for _, refresh := range state.Refreshes {
		if refresh.ID == valueOf(c.params, "token") {
			v.burned[refresh.Code] = true
		}
	}
}

// check fails unless what has ended counts no more, at whatever time and Till, and what was answered is there.
func (v *life) check() {
	v.t.Helper()
	state := v.store.State()
	for _, token := range state.Tokens {
		if !v.ended[token.ID] && !v.burned[token.Code] {
			continue
		}
		for i, till := range v.tills {
			for _, now := range []int{math.MinInt, token.At, token.At + v.config.TokenLife - 1} {
				said, err := till.Introspect(now, basic("svc"), pairs("token", token.ID))
				if till.Active(now, token.ID) || err != nil || !isSame(answer{outcome: said}, inactive) {
					v.fail("P17.8, P17.9: at the Till %d and the time %d counts %+v", i, now, token)
				}
			}
		}
	}
	for _, code := range state.Codes {
		if v.burned[code.ID] && !code.Burned {
			v.fail("P17.8: the code is not burned: %+v", code)
		}
	}
	for token, code := range v.told {
		if got, ok := v.store.Token(token); !ok || got.Code != code {
			v.fail("P17.3: a token that was answered is %+v, %v", got, ok)
		}
	}
}

// open lets the machine boot, however often an arm kills that. On the disk it finds what was there, or that and what was under way.
func (v *life) open() {
	v.t.Helper()
	v.note("open")
	for !v.boot() {
		v.note("open again")
	}
	got := look(v.disk)
	if !bytes.Equal(got, v.sure) && (v.underWay == nil || !bytes.Equal(got, append(slices.Clone(v.sure), frame(v.underWay)...))) {
		v.fail("layer 17: %q is found, want %q, or that and %+v", got, v.sure, v.underWay)
	}
	v.sure, v.underWay = got, nil
	v.check()
}

func (v *life) crash(keep int) {
	v.note("crash, %d kept", keep)
	v.disk.Crash(keep)
}

func (v *life) arm(after, keep int) {
	v.note("arm %d, %d", after, keep)
	v.disk.Arm(after, keep)
}

func (v *life) wait(draws ...byte) {
	v.note("draws %d", draws)
	v.push(draws...)
}
