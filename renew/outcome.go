package renew

import (
	"usher/api"
	"usher/terms"
)

// bearer is the type of all tokens: whoever has one may use it.
const bearer = "Bearer"

// refusal is the outcome by the name of an error. A client that has not shown who it is may do so.
func refusal(reason string) api.Outcome {
	isUnknown := reason == api.InvalidClient
	status := 400
	if isUnknown {
		status = 401
	}
	return api.Outcome{Status: status, Error: reason, Members: []api.Member{text("error", reason)}, Challenge: isUnknown}
}

// given is what a client gets for its refresh token: a token and the next refresh token.
func given(fresh [2]string, life int, scopes []string) api.Outcome {
	return api.Outcome{Status: 200, Members: []api.Member{
		text("access_token", fresh[0]),
		text("token_type", bearer),
		{Name: "expires_in", Kind: api.MemNum, Num: life},
		text("refresh_token", fresh[1]),
		text("scope", terms.ScopeText(scopes)),
	}}
}

func text(name, value string) api.Member {
	return api.Member{Name: name, Kind: api.MemText, Text: value}
}
