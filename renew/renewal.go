package renew

import (
	"usher/api"
	"usher/pct"
	"usher/terms"
)

// The names of the parameters.
const (
	grantName   = "grant_type"
	refreshName = "refresh_token"
	scopeName   = "scope"
)

// refreshGrant is the one grant type that is answered here.
const refreshGrant = "refresh_token"

// A renewal is one call of Renew: what it was handed, what its steps have found out so far, and how it ends.
type renewal struct {
	desk   *Desk
	now    int
	auth   string
	params []api.Pair

	caller string
	shown  string      // what the caller shows as its refresh token
	scope  string      // what it asks for; empty if it does not say
	old    api.Refresh // the refresh token that is shown
	scopes []string    // the new token's
	fresh  [2]string   // the identifiers of the new token and of the new refresh token

	outcome api.Outcome
	err     error
}

// steps are in the order in which they are taken: each may lean on what those ahead of it have found out, and says whether the call goes on. That a refresh token is used is asked ahead of its time and of the scopes: shown again it ends its family, whatever comes with it.
func (r *renewal) steps() []func() bool {
	return []func() bool{
		r.checkTime,
		r.findCaller,
		r.checkGrantType,
		r.readParameters,
		r.findRefresh,
		r.checkFamily,
		r.endFamilyIfUsed,
		r.checkLife,
		r.chooseScopes,
		r.draw,
		r.commit,
		r.answer,
	}
}

// refuse ends the call by the name of an error.
func (r *renewal) refuse(reason string) bool {
	r.outcome = refusal(reason)
	return false
}

// fail ends the call by an error, which is handed on as it is.
func (r *renewal) fail(err error) bool {
	r.err = err
	return false
}

func (r *renewal) checkTime() bool {
	if r.now < 0 || r.now > api.MaxNow {
		return r.fail(api.ErrArg)
	}
	return true
}

func (r *renewal) findCaller() bool {
	caller, _, reason := r.desk.till.Caller(r.auth, r.params)
	if reason != "" {
		return r.refuse(reason)
	}
	r.caller = caller
	return true
}

func (r *renewal) checkGrantType() bool {
	grant, count := pct.Get(r.params, grantName)
	switch {
	case count != 1:
		return r.refuse(api.InvalidRequest)
	case grant != refreshGrant:
		return r.refuse(api.UnsupportedGrantType)
	}
	return true
}

func (r *renewal) readParameters() bool {
	shown, showings := pct.Get(r.params, refreshName)
	scope, scopes := pct.Get(r.params, scopeName)
	if showings != 1 || scopes > 1 {
		return r.refuse(api.InvalidRequest)
	}
	r.shown, r.scope = shown, scope
	return true
}

func (r *renewal) findRefresh() bool {
	refresh, found := r.desk.store.Refresh(r.shown)
	if !found || refresh.Client != r.caller {
		return r.refuse(api.InvalidGrant)
	}
	r.old = refresh
	return true
}

func (r *renewal) checkFamily() bool {
	if r.desk.isBurned(r.old) {
		return r.refuse(api.InvalidGrant)
	}
	return true
}

// endFamilyIfUsed: one of the two who have shown the refresh token is a thief, and nobody can say which.
func (r *renewal) endFamilyIfUsed() bool {
	if !r.old.Used {
		return true
	}
	if err := r.desk.store.Commit([]api.Record{{Kind: api.RecBurned, ID: r.old.Code}}); err != nil {
		return r.fail(err)
	}
	return r.refuse(api.InvalidGrant)
}

func (r *renewal) checkLife() bool {
	if r.desk.isOver(r.now, r.old) {
		return r.refuse(api.InvalidGrant)
	}
	return true
}

// chooseScopes takes all that the refresh token has, or those of them that are asked for.
func (r *renewal) chooseScopes() bool {
	if r.scope == "" {
		r.scopes = r.old.Scopes
		return true
	}
	scopes, err := terms.Scopes(r.scope)
	if err != nil || !terms.Within(scopes, r.old.Scopes) {
		return r.refuse(api.InvalidScope)
	}
	r.scopes = scopes
	return true
}

// draw uses the draws up, also where a later one is missing or the store then refuses.
func (r *renewal) draw() bool {
	for i := range r.fresh {
		id, err := r.desk.source.Fresh(r.desk.store.Known)
		if err != nil {
			return r.fail(err)
		}
		r.fresh[i] = id
	}
	return true
}

// commit puts all into one transaction: no refresh token is used up for nothing. The new one keeps all scopes of the old one, however few the token has.
func (r *renewal) commit() bool {
	token := api.Record{
		Kind: api.RecToken, ID: r.fresh[0], User: r.old.User, Client: r.old.Client,
		Code: r.old.Code, Scopes: r.scopes, At: r.now,
	}
	next := token
	next.Kind, next.ID, next.Scopes = api.RecRefresh, r.fresh[1], r.old.Scopes
	turned := api.Record{Kind: api.RecTurned, ID: r.old.ID}
	if err := r.desk.store.Commit([]api.Record{turned, token, next}); err != nil {
		return r.fail(err)
	}
	return true
}

func (r *renewal) answer() bool {
	r.outcome = given(r.fresh, r.desk.tokenLife, r.scopes)
	return false
}
