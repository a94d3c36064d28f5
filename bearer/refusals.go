package bearer

import (
	"slices"

	"usher/api"
	"usher/terms"
)

// challenge asks for a token; what is wrong stands behind it.
const challenge = scheme + ` realm="usher"`

func attribute(name, value string) string { return `, ` + name + `="` + value + `"` }

// refusal names its reason, if there is one: who has shown no token has done nothing wrong.
func refusal(status int, reason string) api.Access {
	a := api.Access{Status: status, Error: reason, Challenge: challenge}
	if reason != "" {
		a.Challenge += attribute("error", reason)
	}
	return a
}

// insufficient tells what is needed, too. What is no scope is left out: it might end the attribute, or the field.
func insufficient(need []string) api.Access {
	scopes := slices.DeleteFunc(slices.Clone(need), func(text string) bool { return !isScope(text) })
	a := refusal(403, api.InsufficientScope)
	a.Challenge += attribute("scope", terms.ScopeText(scopes))
	return a
}

// isScope: is a text one scope, and nothing but it? Two that are the same are read as one.
func isScope(text string) bool {
	scopes, _ := terms.Scopes(text)
	return slices.Equal(scopes, []string{text})
}
