package world_test

import (
	"slices"
	"strings"

	"usher/api"
)

// caller: P17.1; the last answer is the name of an error.
func (m *model) caller(auth string, params []api.Pair) (api.Client, string) {
	id, ids := countOf(params, "client_id")
	secret, secrets := countOf(params, "client_secret")
	name, pass := id, secret
	if auth != "" {
		var ok bool
		if name, pass, ok = basicOf(auth); !ok {
			return api.Client{}, "invalid_client"
		}
		if secrets > 0 || ids > 1 || ids == 1 && id != name {
			return api.Client{}, "invalid_request"
		}
	} else {
		if ids == 0 {
			return api.Client{}, "invalid_client"
		}
		if ids > 1 || secrets > 1 {
			return api.Client{}, "invalid_request"
		}
	}
	client, isClient := find(m.config.Clients, func(c api.Client) bool { return c.ID == name })
	switch {
	case !isClient:
	case client.Public && auth == "" && secrets == 0:
		return client, ""
	case !client.Public && (auth != "" || secrets == 1) && isPassword(pass, client.Secret, m.config.Rounds):
		return client, ""
	}
	return api.Client{}, "invalid_client"
}

func refusalOf(word string) (modelReply, error) {
	if word == "invalid_client" {
		return errorObjectOf(401, word), nil
	}
	return errorObjectOf(400, word), nil
}

// back: P19.13.
func (m *model) back(path, auth string, params []api.Pair) (modelReply, error) {
	client, refusal := m.caller(auth, params)
	if refusal == "" && path == "/introspect" && client.Public {
		refusal = "invalid_client"
	}
	if refusal != "" {
		return refusalOf(refusal)
	}
	if path != "/token" {
		id, count := countOf(params, "token")
		if count != 1 {
			return refusalOf("invalid_request")
		}
		if path == "/introspect" {
			return m.introspect(id), nil
		}
		return m.revoke(client.ID, id)
	}
	grant, count := countOf(params, "grant_type")
	switch {
	case count != 1:
		return refusalOf("invalid_request")
	case grant == "authorization_code":
		return m.redeem(client.ID, params)
	case grant == "refresh_token":
		return m.renew(client.ID, params)
	}
	return refusalOf("unsupported_grant_type")
}

// introspect: P17.4.
func (m *model) introspect(id string) modelReply {
	state := m.kept.state()
	t, isToken := tokenOf(state, id)
	code, _ := codeOf(state, t.Code)
	if !isToken || t.Revoked || code.Burned || m.now >= t.At+m.config.TokenLife {
		return objectOf(200, `"active":false`)
	}
	return objectOf(200, `"active":true`, textMember("scope", strings.Join(t.Scopes, " ")), textMember("client_id", t.Client), textMember("username", t.User),
		textMember("token_type", "Bearer"), numberMember("exp", t.At+m.config.TokenLife), numberMember("iat", t.At))
}

// revoke: P17.5.
func (m *model) revoke(client, id string) (modelReply, error) {
	state := m.kept.state()
	t, isToken := tokenOf(state, id)
	r, isRefresh := refreshOf(state, id)
	switch {
	case !isToken && !isRefresh:
		return objectOf(200), nil
	case isToken && t.Client != client, isRefresh && r.Client != client:
		return refusalOf("unauthorized_client")
	case isToken && t.Revoked:
		return objectOf(200), nil
	case isToken:
		return objectOf(200), m.commit(api.Record{Kind: api.RecRevoked, ID: id})
	}
	if code, _ := codeOf(state, r.Code); code.Burned {
		return objectOf(200), nil
	}
	return objectOf(200), m.commit(api.Record{Kind: api.RecBurned, ID: r.Code})
}

// freshTwo takes one draw or two.
func (m *model) freshTwo(isTwo bool) (id, next string, err error) {
	if id, err = m.fresh(); err != nil || !isTwo {
		return id, "", err
	}
	if next, err = m.fresh(); err == nil && next == id {
		err = errModelDraw
	}
	return id, next, err
}

// given is the answer that gives a token out.
func (m *model) given(id, next string, scopes []string) modelReply {
	members := []string{textMember("access_token", id), textMember("token_type", "Bearer"), numberMember("expires_in", m.config.TokenLife)}
	if next != "" {
		members = append(members, textMember("refresh_token", next))
	}
	return objectOf(200, append(members, textMember("scope", strings.Join(scopes, " ")))...)
}

// redeem: P17.3.
func (m *model) redeem(client string, params []api.Pair) (modelReply, error) {
	id, codes := countOf(params, "code")
	redirect, redirects := countOf(params, "redirect_uri")
	verifier, verifiers := countOf(params, "code_verifier")
	if codes != 1 || redirects != 1 || verifiers != 1 {
		return refusalOf("invalid_request")
	}
	code, isCode := codeOf(m.kept.state(), id)
	if !isCode || code.Client != client {
		return refusalOf("invalid_grant")
	}
	if code.Used {
		if !code.Burned {
			if err := m.commit(api.Record{Kind: api.RecBurned, ID: id}); err != nil {
				return modelReply{}, err
			}
		}
		return refusalOf("invalid_grant")
	}
	if m.now >= code.At+m.config.CodeLife || redirect != code.Redirect || !isProof(verifier) || challengeOf(verifier) != code.Challenge {
		return refusalOf("invalid_grant")
	}
	token, next, err := m.freshTwo(slices.Contains(code.Scopes, "offline_access"))
	if err != nil {
		return modelReply{}, err
	}
	thing := api.Record{Kind: api.RecToken, ID: token, Client: client, User: code.User, Code: id, Scopes: code.Scopes, At: m.now}
	tx := []api.Record{{Kind: api.RecRedeemed, ID: id}, thing}
	if next != "" {
		thing.Kind, thing.ID = api.RecRefresh, next
		tx = append(tx, thing)
	}
	return m.given(token, next, code.Scopes), m.commit(tx...)
}

// renew: P18.1.
func (m *model) renew(client string, params []api.Pair) (modelReply, error) {
	id, ids := countOf(params, "refresh_token")
	scope, scopes := countOf(params, "scope")
	if ids != 1 || scopes > 1 {
		return refusalOf("invalid_request")
	}
	state := m.kept.state()
	old, isRefresh := refreshOf(state, id)
	code, _ := codeOf(state, old.Code)
	if !isRefresh || old.Client != client || code.Burned {
		return refusalOf("invalid_grant")
	}
	if old.Used {
		if err := m.commit(api.Record{Kind: api.RecBurned, ID: old.Code}); err != nil {
			return modelReply{}, err
		}
		return refusalOf("invalid_grant")
	}
	if m.now >= old.At+m.config.RefreshLife {
		return refusalOf("invalid_grant")
	}
	wanted := old.Scopes
	if scopes == 1 {
		var ok bool
		if wanted, ok = scopesOf(scope); !ok || !isWithin(wanted, old.Scopes) {
			return refusalOf("invalid_scope")
		}
	}
	token, next, err := m.freshTwo(true)
	if err != nil {
		return modelReply{}, err
	}
	thing := api.Record{Kind: api.RecToken, ID: token, Client: client, User: old.User, Code: old.Code, Scopes: wanted, At: m.now}
	tx := []api.Record{{Kind: api.RecTurned, ID: id}, thing}
	thing.Kind, thing.ID, thing.Scopes = api.RecRefresh, next, old.Scopes
	return m.given(token, next, wanted), m.commit(append(tx, thing)...)
}
