package token

import (
	"usher/api"
	"usher/field"
	"usher/pct"
	"usher/pkce"
	"usher/registry"
)

// The names of the parameters.
const (
	clientName   = "client_id"
	secretName   = "client_secret"
	grantName    = "grant_type"
	codeName     = "code"
	redirectName = "redirect_uri"
	verifierName = "code_verifier"
	tokenName    = "token"
)

// codeGrant is the one grant type that is answered here.
const codeGrant = "authorization_code"

// A rule is what must hold for a request, and the error by which it is refused if it does not.
type rule struct {
	holds  func() bool
	reason string
}

// firstReason is that of the first rule that does not hold; empty, if all do. Those behind it are not asked: a password is stretched only where it matters.
func firstReason(rules ...rule) string {
	for _, rule := range rules {
		if !rule.holds() {
			return rule.reason
		}
	}
	return ""
}

// areOnce: is each of these parameters there just once?
func areOnce(form []api.Pair, params ...string) bool {
	for _, name := range params {
		if _, count := pct.Get(form, name); count != 1 {
			return false
		}
	}
	return true
}

func valueOf(form []api.Pair, name string) string {
	value, _ := pct.Get(form, name)
	return value
}

// asker is the client that a request comes from, if the reason is empty: there is none by which it is refused.
func (t *Till) asker(auth string, params []api.Pair) (client api.Client, reason string) {
	if auth != "" {
		return t.askerByField(auth, params)
	}
	return t.askerByForm(params)
}

// askerByField takes no client that is public: it has nothing to show.
func (t *Till) askerByField(auth string, params []api.Pair) (api.Client, string) {
	name, pass, err := field.Basic(auth)
	id, ids := pct.Get(params, clientName)
	_, secrets := pct.Get(params, secretName)
	client, found := registry.FindClient(t.config, name)
	return client, firstReason(
		rule{func() bool { return err == nil }, api.InvalidClient},
		rule{func() bool { return secrets == 0 }, api.InvalidRequest},
		rule{func() bool { return ids == 0 || ids == 1 && id == name }, api.InvalidRequest},
		rule{func() bool { return found && !client.Public && t.isPassword(pass, client) }, api.InvalidClient},
	)
}

// askerByForm takes no secret of a public client: whoever sends one is mistaken about who it is.
func (t *Till) askerByForm(params []api.Pair) (api.Client, string) {
	id, ids := pct.Get(params, clientName)
	pass, secrets := pct.Get(params, secretName)
	client, found := registry.FindClient(t.config, id)
	return client, firstReason(
		rule{func() bool { return ids > 0 }, api.InvalidClient},
		rule{func() bool { return ids == 1 }, api.InvalidRequest},
		rule{func() bool { return secrets <= 1 }, api.InvalidRequest},
		rule{func() bool { return found }, api.InvalidClient},
		rule{func() bool { return client.Public == (secrets == 0) }, api.InvalidClient},
		rule{func() bool { return client.Public || t.isPassword(pass, client) }, api.InvalidClient},
	)
}

func (t *Till) isPassword(pass string, client api.Client) bool {
	return pkce.Password(pass, client.Secret, t.config.Rounds)
}
