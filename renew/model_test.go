package renew_test

import (
	"regexp"
	"slices"
	"strings"

	"usher/api"
)

// The model says what a call of a Desk must answer, what it must write, and how many draws it must use up, by the words of the chapter. Of the layers below it asks the store for its State, and the Till who calls.

// expect is the answer on a disk that is alive and has room, how many draws are used up, and the transaction.
func (b *bench) expect(c call) (want answer, used int, tx []api.Record) {
	switch c.name {
	case "Renew":
		return b.expectRenew(c)
	case "Live":
		want.holds = b.lives(b.store.State(), c.now, c.id)
		return want, 0, nil
	}
	panic("a test asks the model for what it does not know")
}

// valuesOf is the values of a parameter that count.
func valuesOf(params []api.Pair, name string) []string {
	var list []string
	for _, p := range params {
		if p.Name == name && p.Value != "" {
			list = append(list, p.Value)
		}
	}
	return list
}

// valueOf is the value of a parameter that counts just once; else it is empty.
func valueOf(params []api.Pair, name string) string {
	if list := valuesOf(params, name); len(list) == 1 {
		return list[0]
	}
	return ""
}

func codeOf(s api.State, id string) (api.Code, bool) {
	at := slices.IndexFunc(s.Codes, func(v api.Code) bool { return v.ID == id })
	if at < 0 {
		return api.Code{}, false
	}
	return s.Codes[at], true
}

func refreshOf(s api.State, id string) (api.Refresh, bool) {
	at := slices.IndexFunc(s.Refreshes, func(v api.Refresh) bool { return v.ID == id })
	if at < 0 {
		return api.Refresh{}, false
	}
	return s.Refreshes[at], true
}

// lives: does the state have a refresh token of that identifier that lives at that time?
func (b *bench) lives(s api.State, now int, id string) bool {
	refresh, found := refreshOf(s, id)
	code, _ := codeOf(s, refresh.Code)
	return found && !refresh.Used && !code.Burned && now < refresh.At+b.config.RefreshLife
}

var scopesText = regexp.MustCompile(`^[\x21\x23-\x5b\x5d-\x7e]{1,32}(?: [\x21\x23-\x5b\x5d-\x7e]{1,32})*$`)

// readScopes is the scopes of a text, rising and each once.
func readScopes(text string) ([]string, bool) {
	if !scopesText.MatchString(text) {
		return nil, false
	}
	list := strings.Split(text, " ")
	slices.Sort(list)
	list = slices.Compact(list)
	return list, len(list) <= 16
}

func isWithin(few, many []string) bool {
	return !slices.ContainsFunc(few, func(scope string) bool { return !slices.Contains(many, scope) })
}

func (b *bench) expectRenew(c call) (want answer, used int, tx []api.Record) {
	if c.now < 0 || c.now > 1099511627776 {
		return failure(api.ErrArg), 0, nil
	}
	client, _, reason := b.tills[c.desk].Caller(c.auth, c.params)
	grant, scope := valueOf(c.params, "grant_type"), valuesOf(c.params, "scope")
	state := b.store.State()
	old, found := refreshOf(state, valueOf(c.params, "refresh_token"))
	code, _ := codeOf(state, old.Code)
	switch {
	case reason != "":
		return refused(reason), 0, nil
	case grant == "":
		return refused("invalid_request"), 0, nil
	case grant != "refresh_token":
		return refused("unsupported_grant_type"), 0, nil
	case valueOf(c.params, "refresh_token") == "" || len(scope) > 1:
		return refused("invalid_request"), 0, nil
	case !found || old.Client != client || code.Burned:
		return refused("invalid_grant"), 0, nil
	case old.Used:
		return refused("invalid_grant"), 0, []api.Record{burnedRecord(old.Code)}
	case c.now >= old.At+b.config.RefreshLife:
		return refused("invalid_grant"), 0, nil
	case len(scope) == 0:
		return b.expectGiven(c.now, old, old.Scopes, state)
	}
	scopes, ok := readScopes(scope[0])
	if !ok || !isWithin(scopes, old.Scopes) {
		return refused("invalid_scope"), 0, nil
	}
	return b.expectGiven(c.now, old, scopes, state)
}

// isKnown: does anything that is kept have that identifier?
func isKnown(s api.State, id string) bool {
	_, isCode := codeOf(s, id)
	_, isRefresh := refreshOf(s, id)
	return isCode || isRefresh ||
		slices.ContainsFunc(s.Sessions, func(v api.Session) bool { return v.ID == id }) ||
		slices.ContainsFunc(s.Tokens, func(v api.Token) bool { return v.ID == id })
}

func (b *bench) expectGiven(now int, old api.Refresh, scopes []string, state api.State) (want answer, used int, tx []api.Record) {
	var ids [2]string
	for i := range ids {
		if len(b.draws) == i {
			return failure(api.ErrDry), i, nil
		}
		ids[i] = idOf(b.draws[i])
		if isKnown(state, ids[i]) {
			return failure(api.ErrTaken), i + 1, nil
		}
	}
	if ids[0] == ids[1] {
		return failure(api.ErrTaken), 2, nil
	}
	tx = []api.Record{
		{Kind: 10, ID: old.ID},
		{Kind: 6, ID: ids[0], User: old.User, Client: old.Client, Code: old.Code, Scopes: scopes, At: now},
		{Kind: 9, ID: ids[1], User: old.User, Client: old.Client, Code: old.Code, Scopes: old.Scopes, At: now},
	}
	return givenFor(b.config.TokenLife, ids[0], ids[1], strings.Join(scopes, " ")), 2, tx
}
