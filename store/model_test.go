package store_test

import (
	"slices"
	"sort"

	"usher/api"
)

// A model is nothing but the row of the records that have applied, in their order. What is kept is read out of it: a thing is there if a record has brought it, and it is ended, used, burned or revoked if a later record says so.
type model []api.Record

// says: is there a record of that kind and identifier, at the place from or behind it?
func (m model) says(kind int, id string, from int) bool {
	return slices.ContainsFunc(m[from:], func(r api.Record) bool { return r.Kind == kind && r.ID == id })
}

// isWithdrawn: has that user taken back what they allowed that client, at the place from or behind it?
func (m model) isWithdrawn(w who, from int) bool {
	return slices.ContainsFunc(m[from:], func(r api.Record) bool {
		return r.Kind == api.RecWithdrawn && w == who{r.User, r.Client}
	})
}

// place is where the record stands that has brought the thing of that identifier; -1 if there is none.
func (m model) place(id string, kinds ...int) int {
	return slices.IndexFunc(m, func(r api.Record) bool { return r.ID == id && slices.Contains(kinds, r.Kind) })
}

func (m model) isKnown(id string) bool {
	return m.place(id, api.RecSession, api.RecCode, api.RecToken, api.RecRefresh) >= 0
}

func (m model) isUsed(place int) bool {
	return m.says(api.RecRedeemed, m[place].ID, place) || m.isWithdrawn(who{m[place].User, m[place].Client}, place)
}

func (m model) isBurned(place int) bool {
	return m.says(api.RecBurned, m[place].ID, place) || m.isWithdrawn(who{m[place].User, m[place].Client}, place)
}

// consentOf is the place of the last consent of that user and client; -1 if there is none, or if it was taken back.
func (m model) consentOf(w who) int {
	for i, r := range slices.Backward(m) {
		if w == (who{r.User, r.Client}) && (r.Kind == api.RecConsent || r.Kind == api.RecWithdrawn) {
			if r.Kind == api.RecConsent {
				return i
			}
			return -1
		}
	}
	return -1
}

// applies: may r stand behind the records that are there? An identifier that is taken is not looked for here.
func (m model) applies(r api.Record) bool {
	switch r.Kind {
	case api.RecEnded:
		return m.place(r.ID, api.RecSession) >= 0 && !m.says(api.RecEnded, r.ID, 0)
	case api.RecRedeemed:
		place := m.place(r.ID, api.RecCode)
		return place >= 0 && !m.isUsed(place)
	case api.RecBurned:
		place := m.place(r.ID, api.RecCode)
		return place >= 0 && m.isUsed(place) && !m.isBurned(place)
	case api.RecTurned:
		return m.place(r.ID, api.RecRefresh) >= 0 && !m.says(api.RecTurned, r.ID, 0)
	case api.RecRevoked:
		return m.place(r.ID, api.RecToken) >= 0 && !m.says(api.RecRevoked, r.ID, 0)
	case api.RecWithdrawn:
		return m.consentOf(who{r.User, r.Client}) >= 0
	case api.RecToken, api.RecRefresh:
		place := m.place(r.Code, api.RecCode)
		return place >= 0 && m.isUsed(place) && !m.isBurned(place) &&
			m[place].User == r.User && m[place].Client == r.Client && holds(m[place].Scopes, r.Scopes)
	}
	return true
}

// holds: is each of part among all?
func holds(all, part []string) bool {
	return !slices.ContainsFunc(part, func(s string) bool { return !slices.Contains(all, s) })
}

// with is the model behind a transaction of records that may be so, or why it does not apply.
func (m model) with(tx []api.Record) (model, error) {
	next := slices.Clone(m)
	for _, r := range tx {
		fresh := slices.Contains([]int{api.RecSession, api.RecCode, api.RecToken, api.RecRefresh}, r.Kind)
		if fresh && next.isKnown(r.ID) {
			return m, api.ErrTaken
		}
		if !next.applies(r) {
			return m, api.ErrLost
		}
		r.Scopes = slices.Clone(r.Scopes)
		next = append(next, r)
	}
	return next, nil
}

// state is what the records have led to.
func (m model) state() api.State {
	var s api.State
	for i, r := range m {
		scopes := slices.Clone(r.Scopes)
		switch r.Kind {
		case api.RecSession:
			s.Sessions = append(s.Sessions, api.Session{ID: r.ID, User: r.User, At: r.At, Ended: m.says(api.RecEnded, r.ID, i)})
		case api.RecConsent:
			if m.consentOf(who{r.User, r.Client}) == i {
				s.Consents = append(s.Consents, api.Consent{User: r.User, Client: r.Client, Scopes: scopes, At: r.At})
			}
		case api.RecCode:
			s.Codes = append(s.Codes, api.Code{ID: r.ID, Client: r.Client, User: r.User, Redirect: r.Redirect, Challenge: r.Challenge, Scopes: scopes, At: r.At, Used: m.isUsed(i), Burned: m.isBurned(i)})
		case api.RecToken:
			s.Tokens = append(s.Tokens, api.Token{ID: r.ID, Client: r.Client, User: r.User, Code: r.Code, Scopes: scopes, At: r.At, Revoked: m.says(api.RecRevoked, r.ID, i)})
		case api.RecRefresh:
			s.Refreshes = append(s.Refreshes, api.Refresh{ID: r.ID, Client: r.Client, User: r.User, Code: r.Code, Scopes: scopes, At: r.At, Used: m.says(api.RecTurned, r.ID, i)})
		}
	}
	sort.Slice(s.Sessions, func(i, j int) bool { return s.Sessions[i].ID < s.Sessions[j].ID })
	sort.Slice(s.Codes, func(i, j int) bool { return s.Codes[i].ID < s.Codes[j].ID })
	sort.Slice(s.Tokens, func(i, j int) bool { return s.Tokens[i].ID < s.Tokens[j].ID })
	sort.Slice(s.Refreshes, func(i, j int) bool { return s.Refreshes[i].ID < s.Refreshes[j].ID })
	sort.Slice(s.Consents, func(i, j int) bool {
		a, b := s.Consents[i], s.Consents[j]
		return a.User < b.User || a.User == b.User && a.Client < b.Client
	})
	return s
}

// modelOf is the model of transactions that apply.
func modelOf(txs ...[]api.Record) model {
	var m model
	for _, tx := range txs {
		next, err := m.with(tx)
		if err != nil {
			panic("a test takes a transaction for one that applies")
		}
		m = next
	}
	return m
}

func stateOf(txs ...[]api.Record) api.State { return modelOf(txs...).state() }
