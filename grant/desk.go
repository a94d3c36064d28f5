package grant

import (
	"usher/api"
	"usher/terms"
)

// receive is how Ask and Answer begin: the request, if it is well-formed and its session lives; else the verdict, which has a kind then.
func (d *Desk) receive(now int, sid string, params []api.Pair) (*request, api.Verdict) {
	q := &request{config: d.config, params: params, now: now, sid: sid}
	if v := q.read(); v.Kind != 0 {
		return q, v
	}
	user, lives := d.Who(now, sid)
	if !lives {
		return q, q.toLogin()
	}
	q.user = user
	return q, api.Verdict{}
}

// hasAllowed: has the user allowed the client all that it asks for, by the last consent?
func (d *Desk) hasAllowed(q *request) bool {
	last, ok := d.store.Consent(q.user, q.id)
	return ok && terms.Within(q.scopes, last.Scopes)
}

// begin's draw is used up, also where the store then refuses the session.
func (d *Desk) begin(now int, user string) (string, error) {
	id, err := d.source.Fresh(d.store.Known)
	if err != nil {
		return "", err
	}
	if err := d.store.Commit([]api.Record{{Kind: api.RecSession, ID: id, User: user, At: now}}); err != nil {
		return "", err
	}
	return id, nil
}

// giveOut gives out a code. The records ahead of it go into the same transaction: none of them lasts without the code, nor it without them.
func (d *Desk) giveOut(q *request, scopes []string, ahead ...api.Record) (api.Verdict, error) {
	id, err := d.source.Fresh(d.store.Known)
	if err != nil {
		return api.Verdict{}, err
	}
	if err := d.store.Commit(append(ahead, q.code(id, scopes))); err != nil {
		return api.Verdict{}, err
	}
	return q.sentCode(id), nil
}

func (q *request) code(id string, scopes []string) api.Record {
	return api.Record{
		Kind: api.RecCode, ID: id, User: q.user, Client: q.id,
		Redirect: q.redirect, Challenge: q.challenge, Scopes: scopes, At: q.now,
	}
}

func (q *request) consentTo(scopes []string) api.Record {
	return api.Record{Kind: api.RecConsent, User: q.user, Client: q.id, Scopes: scopes, At: q.now}
}
