package token

import (
	"usher/api"
	"usher/terms"
)

// bearer is the type of all tokens: whoever has one may use it.
const bearer = "Bearer"

// refusal is the outcome by the name of an error. A client that has not shown who it is may do so.
func refusal(reason string) api.Outcome {
	status, challenge := 400, false
	if reason == api.InvalidClient {
		status, challenge = 401, true
	}
	return api.Outcome{Status: status, Error: reason, Members: []api.Member{text("error", reason)}, Challenge: challenge}
}

// done is an outcome with these members.
func done(members ...api.Member) api.Outcome {
	return api.Outcome{Status: 200, Members: members}
}

// given is what a client gets for its code: a token, and perhaps a refresh token behind it.
func (t *Till) given(code api.Code, records []api.Record) api.Outcome {
	members := []api.Member{
		text("access_token", records[0].ID),
		text("token_type", bearer),
		number("expires_in", t.config.TokenLife),
	}
	for _, refresh := range records[1:] {
		members = append(members, text("refresh_token", refresh.ID))
	}
	return done(append(members, text("scope", terms.ScopeText(code.Scopes)))...)
}

// told is what is said about a token that counts.
func (t *Till) told(token api.Token) api.Outcome {
	return done(
		flag("active", true),
		text("scope", terms.ScopeText(token.Scopes)),
		text("client_id", token.Client),
		text("username", token.User),
		text("token_type", bearer),
		number("exp", token.At+t.config.TokenLife),
		number("iat", token.At),
	)
}

func text(name, value string) api.Member {
	return api.Member{Name: name, Kind: api.MemText, Text: value}
}

func number(name string, value int) api.Member {
	return api.Member{Name: name, Kind: api.MemNum, Num: value}
}

func flag(name string, value bool) api.Member {
	return api.Member{Name: name, Kind: api.MemFlag, Flag: value}
}
