package store

import (
	"cmp"
	"slices"
	"strings"

	"usher/api"
)

// kept is what the transactions have led to, ready to be asked: all by identifier, but consents by who has allowed whom.
type kept struct {
	sessions  map[string]api.Session
	consents  map[pair]api.Consent
	codes     map[string]api.Code
	tokens    map[string]api.Token
	refreshes map[string]api.Refresh
}

// pair is a user and a client. Joined into one text, two of them could be mistaken for two others.
type pair struct{ user, client string }

func newKept() kept {
	return kept{
		sessions:  map[string]api.Session{},
		consents:  map[pair]api.Consent{},
		codes:     map[string]api.Code{},
		tokens:    map[string]api.Token{},
		refreshes: map[string]api.Refresh{},
	}
}

// knows: has a session, a code, a token or a refresh token that identifier? The four share one set of them.
func (k *kept) knows(id string) bool {
	return has(k.sessions, id) || has(k.codes, id) || has(k.tokens, id) || has(k.refreshes, id)
}

func has[V any](m map[string]V, id string) bool {
	_, ok := m[id]
	return ok
}

// unburned is the codes of that user and client that are not burned yet, in no order: what is done to each of them must not hang on one.
func (k *kept) unburned(who pair) []api.Code {
	var list []api.Code
	for _, c := range k.codes {
		if c.User == who.user && c.Client == who.client && !c.Burned {
			list = append(list, c)
		}
	}
	return list
}

func comparePairs(a, b pair) int {
	return cmp.Or(strings.Compare(a.user, b.user), strings.Compare(a.client, b.client))
}

// rising is what a map holds, each made the asker's own, rising by the keys.
func rising[K comparable, V any](m map[K]V, compare func(a, b K) int, own func(V) V) []V {
	keys := make([]K, 0, len(m))
	for key := range m {
		keys = append(keys, key)
	}
	slices.SortFunc(keys, compare)
	var values []V
	for _, key := range keys {
		values = append(values, own(m[key]))
	}
	return values
}

// What is handed out must not share its list of scopes with what is kept.

func ownSession(s api.Session) api.Session { return s }

func ownConsent(c api.Consent) api.Consent {
	c.Scopes = slices.Clone(c.Scopes)
	return c
}

func ownCode(c api.Code) api.Code {
	c.Scopes = slices.Clone(c.Scopes)
	return c
}

func ownToken(t api.Token) api.Token {
	t.Scopes = slices.Clone(t.Scopes)
	return t
}

func ownRefresh(r api.Refresh) api.Refresh {
	r.Scopes = slices.Clone(r.Scopes)
	return r
}
