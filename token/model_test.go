package token_test

import (
	"encoding/base64"
	"net/url"
	"regexp"
	"slices"
	"strings"

	"usher/api"
)

// The model says what a call must answer, what it must write, and how many draws it must use up, by the words of the chapter. It leans on none of the layers below but on the store, which it asks for its State alone.

// expect is the answer on a disk that is alive and has room, how many draws are used up, and the transaction.
func (b *bench) expect(c call) (want answer, used int, tx []api.Record) {
	state := b.store.State()
	switch c.name {
	case "Caller":
		want.client, want.hasShown, want.reason = callerOf(b.config, c.auth, c.params)
	case "Token":
		return b.expectToken(c, state)
	case "Introspect":
		want = expectIntrospect(b.config, c, state)
	case "Revoke":
		want, tx = expectRevoke(b.config, c, state)
	case "Active":
		_, want.isActive = countingOf(state, c.id, c.now, b.config.TokenLife)
	}
	return want, 0, tx
}

// valuesOf is the values of a parameter that count.
func valuesOf(params []api.Pair, name string) []string {
	var list []string
	for _, p := range params {
		if p.Name == name && p.Value != "" {
			list = append(list, p.Value)
		}
	}
	return list
}

// valueOf is the value of a parameter that counts just once; else it is empty.
func valueOf(params []api.Pair, name string) string {
	if list := valuesOf(params, name); len(list) == 1 {
		return list[0]
	}
	return ""
}

var basicField = regexp.MustCompile(`^[Bb][Aa][Ss][Ii][Cc] +((?:[A-Za-z0-9+/]{4})*(?:[A-Za-z0-9+/]{2}==|[A-Za-z0-9+/]{3}=)?)$`)

// readBasic is what a Basic field says.
func readBasic(auth string) (name, pass string, ok bool) {
	parts := basicField.FindStringSubmatch(auth)
	if parts == nil {
		return "", "", false
	}
	said, err := base64.StdEncoding.Strict().DecodeString(parts[1])
	if err != nil || slices.ContainsFunc(said, func(b byte) bool { return b < 0x21 || b > 0x7e }) {
		return "", "", false
	}
	head, tail, ok := strings.Cut(string(said), ":")
	name, err = url.QueryUnescape(head)
	pass, wrong := url.QueryUnescape(tail)
	return name, pass, ok && err == nil && wrong == nil
}

// isPassword: is that the password of that client, which is there and not public?
func isPassword(c api.Config, name, pass string) bool {
	return slices.ContainsFunc(c.Clients, func(v api.Client) bool {
		return v.ID == name && !v.Public && digest(pass, v.Secret.Salt, c.Rounds) == v.Secret.Digest
	})
}

func callerOf(c api.Config, auth string, params []api.Pair) (client string, hasShown bool, reason string) {
	ids, secrets := valuesOf(params, "client_id"), valuesOf(params, "client_secret")
	if auth != "" {
		name, pass, ok := readBasic(auth)
		switch {
		case !ok:
			return "", false, "invalid_client"
		case len(secrets) > 0, len(ids) > 1, len(ids) == 1 && ids[0] != name:
			return "", false, "invalid_request"
		case !isPassword(c, name, pass):
			return "", false, "invalid_client"
		}
		return name, true, ""
	}
	isPublic := slices.ContainsFunc(c.Clients, func(v api.Client) bool { return v.Public && slices.Contains(ids, v.ID) })
	switch {
	case len(ids) == 0:
		return "", false, "invalid_client"
	case len(ids) > 1, len(secrets) > 1:
		return "", false, "invalid_request"
	case isPublic && len(secrets) == 0:
		return ids[0], false, ""
	case len(secrets) == 1 && isPassword(c, ids[0], secrets[0]):
		return ids[0], true, ""
	}
	return "", false, "invalid_client"
}

func codeOf(s api.State, id string) (api.Code, bool) {
	for _, v := range s.Codes {
		if v.ID == id {
			return v, true
		}
	}
	return api.Code{}, false
}

// countingOf is the token of that identifier, if it counts.
func countingOf(s api.State, id string, now, life int) (api.Token, bool) {
	for _, v := range s.Tokens {
		if v.ID == id {
			code, found := codeOf(s, v.Code)
			return v, found && !v.Revoked && !code.Burned && now < v.At+life
		}
	}
	return api.Token{}, false
}

func isVerifier(s string) bool {
	if len(s) < 43 || len(s) > 128 {
		return false
	}
	return strings.Trim(s, "ABCDEFGHIJKLMNOPQRSTUVWXYZabcdefghijklmnopqrstuvwxyz0123456789-._~") == ""
}

func (b *bench) expectToken(c call, state api.State) (want answer, used int, tx []api.Record) {
	value := func(name string) string { return valueOf(c.params, name) }
	client, _, reason := callerOf(b.config, c.auth, c.params)
	code, found := codeOf(state, value("code"))
	switch {
	case reason != "":
		return refused(reason), 0, nil
	case value("grant_type") == "":
		return refused("invalid_request"), 0, nil
	case value("grant_type") != "authorization_code":
		return refused("unsupported_grant_type"), 0, nil
	case value("code") == "" || value("redirect_uri") == "" || value("code_verifier") == "":
		return refused("invalid_request"), 0, nil
	case !found || code.Client != client || code.Burned:
		return refused("invalid_grant"), 0, nil
	case code.Used:
		return refused("invalid_grant"), 0, []api.Record{{Kind: api.RecBurned, ID: code.ID}}
	case c.now >= code.At+b.config.CodeLife, value("redirect_uri") != code.Redirect:
		return refused("invalid_grant"), 0, nil
	case !isVerifier(value("code_verifier")) || challengeOf(value("code_verifier")) != code.Challenge:
		return refused("invalid_grant"), 0, nil
	}
	return b.expectGiven(c.now, code, state)
}

// isKnown: does anything that is kept have that identifier?
func isKnown(s api.State, id string) bool {
	return slices.ContainsFunc(s.Sessions, func(v api.Session) bool { return v.ID == id }) ||
		slices.ContainsFunc(s.Codes, func(v api.Code) bool { return v.ID == id }) ||
		slices.ContainsFunc(s.Tokens, func(v api.Token) bool { return v.ID == id }) ||
		slices.ContainsFunc(s.Refreshes, func(v api.Refresh) bool { return v.ID == id })
}

func (b *bench) expectGiven(now int, code api.Code, state api.State) (want answer, used int, tx []api.Record) {
	wanted := 1
	if slices.Contains(code.Scopes, "offline_access") {
		wanted = 2
	}
	var ids []string
	for i := range wanted {
		if len(b.draws) == i {
			return failure(api.ErrDry), i, nil
		}
		fresh := idOf(b.draws[i])
		if isKnown(state, fresh) {
			return failure(api.ErrTaken), i + 1, nil
		}
		ids = append(ids, fresh)
	}
	if now < 0 || now > api.MaxNow {
		return failure(api.ErrArg), wanted, nil
	}
	token := api.Record{Kind: api.RecToken, ID: ids[0], User: code.User, Client: code.Client, Code: code.ID, Scopes: code.Scopes, At: now}
	tx = []api.Record{{Kind: api.RecRedeemed, ID: code.ID}, token}
	members := []api.Member{text("access_token", ids[0]), text("token_type", "Bearer"), number("expires_in", b.config.TokenLife)}
	if wanted == 2 {
		if ids[0] == ids[1] {
			return failure(api.ErrTaken), 2, nil
		}
		refresh := token
		refresh.Kind, refresh.ID = api.RecRefresh, ids[1]
		tx = append(tx, refresh)
		members = append(members, text("refresh_token", ids[1]))
	}
	return done(append(members, text("scope", strings.Join(code.Scopes, " ")))...), wanted, tx
}

func expectIntrospect(c api.Config, asked call, state api.State) answer {
	_, hasShown, reason := callerOf(c, asked.auth, asked.params)
	switch {
	case reason != "":
		return refused(reason)
	case !hasShown:
		return refused("invalid_client")
	case valueOf(asked.params, "token") == "":
		return refused("invalid_request")
	}
	v, counts := countingOf(state, valueOf(asked.params, "token"), asked.now, c.TokenLife)
	if !counts {
		return inactive
	}
	return done(flag("active", true), text("scope", strings.Join(v.Scopes, " ")), text("client_id", v.Client), text("username", v.User),
		text("token_type", "Bearer"), number("exp", v.At+c.TokenLife), number("iat", v.At))
}

func expectRevoke(c api.Config, asked call, state api.State) (answer, []api.Record) {
	client, _, reason := callerOf(c, asked.auth, asked.params)
	wanted := valueOf(asked.params, "token")
	switch {
	case reason != "":
		return refused(reason), nil
	case wanted == "":
		return refused("invalid_request"), nil
	}
	for _, v := range state.Tokens {
		switch {
		case v.ID != wanted:
		case v.Client != client:
			return refused("unauthorized_client"), nil
		case v.Revoked:
			return done(), nil
		default:
			return done(), []api.Record{{Kind: api.RecRevoked, ID: wanted}}
		}
	}
	for _, v := range state.Refreshes {
		code, _ := codeOf(state, v.Code)
		switch {
		case v.ID != wanted:
		case v.Client != client:
			return refused("unauthorized_client"), nil
		case code.Burned:
			return done(), nil
		default:
			return done(), []api.Record{{Kind: api.RecBurned, ID: v.Code}}
		}
	}
	return done(), nil
}
