package server

import (
	"usher/api"
	"usher/pct"
)

// refreshGrant is the grant type that the desk for refresh tokens answers; the till answers, or refuses, all others.
const refreshGrant = "refresh_token"

// A counter is a call of the till, or of the desk for refresh tokens.
type counter func(now int, auth string, params []api.Pair) (api.Outcome, error)

func (v *Server) giveToken(q visit) (api.Reply, error) {
	if grant, count := pct.Get(q.params, "grant_type"); count == 1 && grant == refreshGrant {
		return atCounter(q, v.renewals.Renew)
	}
	return atCounter(q, v.back.Token)
}

func (v *Server) introspect(q visit) (api.Reply, error) {
	return atCounter(q, v.back.Introspect)
}

func (v *Server) revoke(q visit) (api.Reply, error) {
	return atCounter(q, v.back.Revoke)
}

// atCounter tells what the back decides for whoever shows in no more than one way who it is.
func atCounter(q visit, decide counter) (api.Reply, error) {
	auth, ok := q.auth()
	if !ok {
		return errorObject(400, api.InvalidRequest), nil
	}
	outcome, err := decide(q.now, auth, q.params)
	if err != nil {
		return api.Reply{}, err
	}
	var more []api.Pair
	if outcome.Challenge {
		more = []api.Pair{{Name: "WWW-Authenticate", Value: `Basic realm="usher"`}}
	}
	return object(outcome.Status, outcome.Members, more...), nil
}
