package token

import (
	"slices"

	"usher/api"
)

// shownAgain ends all that came of a used code: one of those who have shown it is a thief, and nobody can say which.
func (t *Till) shownAgain(code api.Code) (api.Outcome, error) {
	if !code.Burned {
		if err := t.store.Commit([]api.Record{{Kind: api.RecBurned, ID: code.ID}}); err != nil {
			return api.Outcome{}, err
		}
	}
	return refusal(api.InvalidGrant), nil
}

// giveOut turns a code into a token, and into a refresh token if the user has allowed that. All goes into one transaction: no code is used up for nothing. The draws are used up, also where the store then refuses.
func (t *Till) giveOut(now int, code api.Code) (api.Outcome, error) {
	tx := []api.Record{{Kind: api.RecRedeemed, ID: code.ID}}
	for _, kind := range kindsFor(code) {
		id, err := t.source.Fresh(t.store.Known)
		if err != nil {
			return api.Outcome{}, err
		}
		tx = append(tx, api.Record{
			Kind: kind, ID: id, User: code.User, Client: code.Client,
			Code: code.ID, Scopes: code.Scopes, At: now,
		})
	}
	if err := t.store.Commit(tx); err != nil {
		return api.Outcome{}, err
	}
	return t.given(code, tx[1:]), nil
}

// kindsFor is what a code is turned into, in the order in which the draws are taken.
func kindsFor(code api.Code) []int {
	if slices.Contains(code.Scopes, api.OfflineAccess) {
		return []int{api.RecToken, api.RecRefresh}
	}
	return []int{api.RecToken}
}

// counting is the token of that identifier, if it counts at this time.
func (t *Till) counting(now int, id string) (api.Token, bool) {
	token, found := t.store.Token(id)
	if !found || token.Revoked || now >= token.At+t.config.TokenLife {
		return api.Token{}, false
	}
	if code, _ := t.store.Code(token.Code); code.Burned {
		return api.Token{}, false
	}
	return token, true
}

// An end is how a token or a refresh token is revoked.
type end struct {
	client  string // whose it is
	hasCome bool
	record  api.Record
}

// endOf is the end of what has that identifier. A refresh token's is that of its code: nothing that came of the code counts without it.
func (t *Till) endOf(id string) (end, bool) {
	if token, found := t.store.Token(id); found {
		return end{token.Client, token.Revoked, api.Record{Kind: api.RecRevoked, ID: id}}, true
	}
	if refresh, found := t.store.Refresh(id); found {
		code, _ := t.store.Code(refresh.Code)
		return end{refresh.Client, code.Burned, api.Record{Kind: api.RecBurned, ID: refresh.Code}}, true
	}
	return end{}, false
}
