package store

import (
	"slices"

	"usher/api"
)

// do lets a transaction change what is kept, all of it or nothing: it answers what undoes it, or why the first record that does not apply does not.
func (k *kept) do(tx []api.Record) (undo func(), err error) {
	var steps undoing
	for _, r := range tx {
		step, err := k.doOne(r)
		if err != nil {
			steps.run()
			return nil, err
		}
		steps = append(steps, step)
	}
	return steps.run, nil
}

func (k *kept) doOne(r api.Record) (undo func(), err error) {
	if givesOut(r.Kind) && k.knows(r.ID) {
		return nil, api.ErrTaken
	}
	undo = k.apply(r)
	if undo == nil {
		return nil, api.ErrLost
	}
	return undo, nil
}

// givesOut: does a record of that kind bring an identifier that must be fresh?
func givesOut(kind int) bool {
	switch kind {
	case api.RecSession, api.RecCode, api.RecToken, api.RecRefresh:
		return true
	}
	return false
}

// apply lets a record change what is kept, and answers what undoes that: nil, if the record does not apply. An identifier that must be fresh is so here.
func (k *kept) apply(r api.Record) func() {
	switch r.Kind {
	case api.RecSession:
		return k.begin(r)
	case api.RecEnded:
		return k.end(r.ID)
	case api.RecConsent:
		return k.consent(r)
	case api.RecCode:
		return k.giveCode(r)
	case api.RecRedeemed:
		return k.redeem(r.ID)
	case api.RecToken:
		return k.giveToken(r)
	case api.RecRefresh:
		return k.giveRefresh(r)
	case api.RecTurned:
		return k.turn(r.ID)
	case api.RecRevoked:
		return k.revoke(r.ID)
	case api.RecBurned:
		return k.burn(r.ID)
	case api.RecWithdrawn:
		return k.withdraw(pair{r.User, r.Client})
	}
	return nil
}

func (k *kept) begin(r api.Record) func() {
	return put(k.sessions, r.ID, api.Session{ID: r.ID, User: r.User, At: r.At})
}

func (k *kept) end(id string) func() {
	s, ok := k.sessions[id]
	if !ok || s.Ended {
		return nil
	}
	s.Ended = true
	return put(k.sessions, id, s)
}

func (k *kept) consent(r api.Record) func() {
	return put(k.consents, pair{r.User, r.Client}, api.Consent{
		User: r.User, Client: r.Client, Scopes: slices.Clone(r.Scopes), At: r.At,
	})
}

func (k *kept) giveCode(r api.Record) func() {
	return put(k.codes, r.ID, api.Code{
		ID: r.ID, Client: r.Client, User: r.User, Redirect: r.Redirect, Challenge: r.Challenge,
		Scopes: slices.Clone(r.Scopes), At: r.At,
	})
}

func (k *kept) redeem(id string) func() {
	c, ok := k.codes[id]
	if !ok || c.Used {
		return nil
	}
	c.Used = true
	return put(k.codes, id, c)
}

func (k *kept) giveToken(r api.Record) func() {
	if !k.comesOfCode(r) {
		return nil
	}
	return put(k.tokens, r.ID, api.Token{
		ID: r.ID, Client: r.Client, User: r.User, Code: r.Code, Scopes: slices.Clone(r.Scopes), At: r.At,
	})
}

func (k *kept) giveRefresh(r api.Record) func() {
	if !k.comesOfCode(r) {
		return nil
	}
	return put(k.refreshes, r.ID, api.Refresh{
		ID: r.ID, Client: r.Client, User: r.User, Code: r.Code, Scopes: slices.Clone(r.Scopes), At: r.At,
	})
}

// comesOfCode: may a token or a refresh token such as r's come of the code that it names?
func (k *kept) comesOfCode(r api.Record) bool {
	c, ok := k.codes[r.Code]
	return ok && c.Used && !c.Burned && c.Client == r.Client && c.User == r.User && isWithin(r.Scopes, c.Scopes)
}

func isWithin(part, all []string) bool {
	for _, scope := range part {
		if !slices.Contains(all, scope) {
			return false
		}
	}
	return true
}

func (k *kept) turn(id string) func() {
	r, ok := k.refreshes[id]
	if !ok || r.Used {
		return nil
	}
	r.Used = true
	return put(k.refreshes, id, r)
}

func (k *kept) revoke(id string) func() {
	t, ok := k.tokens[id]
	if !ok || t.Revoked {
		return nil
	}
	t.Revoked = true
	return put(k.tokens, id, t)
}

func (k *kept) burn(id string) func() {
	c, ok := k.codes[id]
	if !ok || !c.Used || c.Burned {
		return nil
	}
	c.Burned = true
	return put(k.codes, id, c)
}

// withdraw also uses up the codes that were never shown: else a token could still be had for what the user has taken back. A code that is burned is used already.
func (k *kept) withdraw(who pair) func() {
	if _, ok := k.consents[who]; !ok {
		return nil
	}
	steps := undoing{take(k.consents, who)}
	for _, c := range k.unburned(who) {
		c.Used, c.Burned = true, true
		steps = append(steps, put(k.codes, c.ID, c))
	}
	return steps.run
}
