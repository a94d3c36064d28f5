package grant_test

import (
	"bytes"
	"fmt"
	"net/url"
	"slices"
	"strings"
	"testing"

	"usher/api"
	"usher/grant"
)

// A life is two Desks over one store that was empty at first, with power failures; and beside the model a ledger of what was sent and answered. P16.14's rules are asked of the ledger, behind every step.
type life struct {
	*bench
	steps    []string
	begun    map[string]string   // the users of the sessions that a Login has answered, or may have begun
	ended    map[string]bool     // the sessions that a Logout has ended
	approved map[pair][][]string // what Answers have allowed, since a Withdraw was done
	anew     map[pair]bool       // who has withdrawn, and not answered since
	gone     map[string]bool     // the codes that were there at a Withdraw
	denials  map[guesser][]int
	sids     []string     // the sessions of begun, in their order
	sure     []byte       // what is sure to lie on the disk
	underWay []api.Record // what was being written when the power failed
}

// pair is a user and a client.
type pair struct{ user, client string }

// guesser is a user at a Desk.
type guesser struct {
	desk int
	user string
}

func newLife(t *testing.T, c api.Config) *life {
	t.Helper()
	v := &life{
		bench: newBench(t, c, 2), begun: map[string]string{}, ended: map[string]bool{}, approved: map[pair][][]string{},
		anew: map[pair]bool{}, gone: map[string]bool{}, denials: map[guesser][]int{},
	}
	v.counts = false
	return v
}

func (v *life) note(format string, args ...any) {
	v.steps = append(v.steps, fmt.Sprintf(format, args...))
}

func (v *life) fail(format string, args ...any) {
	v.t.Helper()
	v.t.Fatalf("%s, behind\n%s", fmt.Sprintf(format, args...), strings.Join(v.steps, "\n"))
}

// step plays a call and holds it against the ledger.
func (v *life) step(c call) answer {
	v.t.Helper()
	v.note("%+v", c)
	_, lived := liver(v.store.State(), c.sid, c.now, v.config.SessionLife)
	held := do(v.desks[c.desk], wait(c.now, c.user)).wait > 0
	wasDead := v.disk.Dead() || v.isDead
	drawn := "" // the identifier that may last though nobody is told it
	if len(v.draws) > 0 && !wasDead {
		drawn = idOf(v.draws[0])
	}
	tx := v.wouldWrite(c)
	got := v.play(c)
	switch {
	case !wasDead && got.err == api.ErrDead:
		v.underWay = tx
	case !wasDead:
		v.sure = look(v.disk)
	}
	switch c.name {
	case "Login":
		v.enterLogin(c, got, drawn, held)
	case "Logout":
		if got.err == nil && lived {
			v.ended[c.sid] = true
		}
	case "Ask", "Answer":
		v.checkAddress(c, got.verdict)
		v.enterAnswer(c, got)
		v.checkCode(c, got.verdict)
	case "Withdraw":
		v.enterWithdraw(c, got)
	}
	v.check()
	return got
}

// wouldWrite is the transaction of a call, by the model, which is left as it was.
func (v *life) wouldWrite(c call) []api.Record {
	was := v.brakes[c.desk][c.user]
	_, _, tx := v.expect(c)
	v.brakes[c.desk][c.user] = was
	return tx
}

func (v *life) enterLogin(c call, got answer, drawn string, held bool) {
	v.t.Helper()
	key := guesser{c.desk, c.user}
	pass, isUser := passwords[c.user]
	isRight := isUser && c.pass == pass
	if isRight && held != (got.err == api.ErrMany) {
		v.fail("P16.14: Wait is above 0: %v, and the right password is answered by %v", held, got.err)
	}
	switch {
	case got.err == nil && !isRight:
		v.fail("P16.14: a session for a wrong password")
	case got.err == nil:
		v.begun[got.text] = c.user
		v.sids = append(v.sids, got.text)
	case got.err == api.ErrDead && drawn != "":
		v.begun[drawn] = c.user
		v.sids = append(v.sids, drawn)
	case got.err == api.ErrDenied && isUser:
		v.denials[key] = append(v.denials[key], onTime(c.now))
	}
	if isRight && got.err != api.ErrMany {
		v.denials[key] = nil
	}
	if v.config.Fails > 0 && v.config.LockTime > 0 && !isSlow(v.denials[key], v.config.Fails, v.config.LockTime) {
		v.fail("P16.14: wrong passwords are denied at %d", v.denials[key])
	}
}

// checkAddress fails unless a To is an address of the client that is named, and a form whose first parameter is code or error.
func (v *life) checkAddress(c call, got api.Verdict) {
	v.t.Helper()
	if (got.To != "") != (got.Kind == api.VerRedirect) || got.Code != "" && got.Error != "" {
		v.fail("P16.9: %+v", got)
	}
	if got.To == "" {
		return
	}
	for _, client := range v.config.Clients {
		if client.ID != valueOf(c.params, "client_id") {
			continue
		}
		for _, to := range client.Redirects {
			head := placed(to, nil)
			form, fits := strings.CutPrefix(got.To, head)
			list, err := url.ParseQuery(form)
			if fits && err == nil && (strings.HasPrefix(form, "code=") || strings.HasPrefix(form, "error=")) && list.Get("code") == got.Code && list.Get("error") == got.Error {
				return
			}
		}
	}
	v.fail("P16.14: the browser is sent to %q", got.To)
}

// enterAnswer enters what an Answer has allowed, or may have.
func (v *life) enterAnswer(c call, got answer) {
	question, scopes, bad := wellFormed(v.config, c.params)
	if c.name != "Answer" || bad != nil || got.err != nil && got.err != api.ErrDead || got.err == nil && got.verdict.Code == "" {
		return
	}
	who := pair{v.begun[c.sid], valueOf(c.params, "client_id")}
	if valueOf(c.params, "ticket") == grant.Ticket(c.sid, question) && valueOf(c.params, "decision") == "allow" {
		v.approved[who] = append(v.approved[who], approvedOf(c.params, scopes))
		delete(v.anew, who)
	}
}

// checkCode fails unless the user of a code's session has been asked, and has allowed its scopes.
func (v *life) checkCode(c call, got api.Verdict) {
	v.t.Helper()
	if got.Code == "" {
		return
	}
	user, begun := v.begun[c.sid]
	made, ok := v.store.Code(got.Code)
	switch {
	case !ok || made.Used || made.Burned || made.User != user || made.Client != valueOf(c.params, "client_id"):
		v.fail("P16.9: the code is %+v, %v", made, ok)
	case !begun || v.ended[c.sid]:
		v.fail("P16.14: a code for a session that was begun: %v, ended: %v", begun, v.ended[c.sid])
	}
	if !slices.ContainsFunc(v.approved[pair{user, made.Client}], func(scopes []string) bool { return holds(scopes, made.Scopes) }) {
		v.fail("P16.14: nobody has allowed %+v", made)
	}
}

// enterWithdraw leaves out what a dead store has answered: it does not know what was under way when it died, and has nothing to take back of that (P16.12). It is to be opened anew.
func (v *life) enterWithdraw(c call, got answer) {
	if got.verdict.Kind != api.VerDone || v.isDead {
		return
	}
	who := pair{v.begun[c.sid], valueOf(c.params, "client_id")}
	v.anew[who] = true
	delete(v.approved, who)
	for _, made := range v.store.State().Codes {
		if made.User == who.user && made.Client == who.client {
			v.gone[made.ID] = true
		}
	}
}

// check fails unless what was taken back is gone, and stays so, and who has taken it back is asked again.
func (v *life) check() {
	v.t.Helper()
	state := v.store.State()
	for _, made := range state.Codes {
		if v.gone[made.ID] && !(made.Used && made.Burned) {
			v.fail("P16.14: what was taken back stands: %+v", made)
		}
	}
	for _, s := range state.Sessions {
		if v.begun[s.ID] != s.User || v.ended[s.ID] && !s.Ended {
			v.fail("P16.14: the session %+v", s)
		}
		for _, asks := range [][]api.Pair{with(asking(), "scope", "read"), webAsking("read")} {
			if s.Ended || !v.anew[pair{s.User, asks[0].Value}] {
				continue
			}
			if got := do(v.desks[1], ask(s.At, s.ID, asks)); got.verdict.Kind != api.VerConsent || got.err != nil {
				v.fail("P16.14: behind a Withdraw Ask answers %+v", got)
			}
		}
	}
}

// open lets the machine boot, however often an arm kills that. On the disk it finds what was there, or that and what was under way.
func (v *life) open() {
	v.t.Helper()
	v.note("open")
	for !v.boot() {
		v.note("open again")
	}
	got := look(v.disk)
	if !bytes.Equal(got, v.sure) && (v.underWay == nil || !bytes.Equal(got, append(slices.Clone(v.sure), frame(v.underWay)...))) {
		v.fail("P16.13: %q is found, want %q, or that and %+v", got, v.sure, v.underWay)
	}
	v.sure, v.underWay, v.denials = got, nil, map[guesser][]int{}
	v.check()
}

func (v *life) crash(keep int) {
	v.note("crash, %d kept", keep)
	v.disk.Crash(keep)
}

func (v *life) arm(after, keep int) {
	v.note("arm %d, %d", after, keep)
	v.disk.Arm(after, keep)
}

func (v *life) wait(b byte) {
	v.note("draw %d", b)
	v.push(draw(b))
}
