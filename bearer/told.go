package bearer

import (
	"math"
	"slices"
	"strings"

	"usher/api"
	"usher/terms"
)

// told is what an answer has told about a token.
type told struct {
	user, client string
	scopes       []string
	until        int // it counts below that time
	number       int // the greater, the later it was told
}

func (t told) counts(now int) bool { return now < t.until }

// own is the same with texts of its own, so that no longer ones of which they are pieces stay with them.
func (t told) own() told {
	t.user, t.client = strings.Clone(t.user), strings.Clone(t.client)
	t.scopes = slices.Clone(t.scopes)
	for i, scope := range t.scopes {
		t.scopes[i] = strings.Clone(scope)
	}
	return t
}

// answerOf is what ask answers; no members, if it is nil or panics.
func answerOf(ask func(token string) []api.Member, token string) []api.Member {
	if ask == nil {
		return nil
	}
	// No call of a guard panics, whatever it is handed; who cannot say that a token is good has not said it.
	defer func() { _ = recover() }()
	return ask(token)
}

// read is what a good answer tells; false: it is not good at that time.
func read(now int, answer []api.Member) (told, bool) {
	active, _ := member(answer, "active", api.MemFlag)
	user, _ := member(answer, "username", api.MemText)
	client, _ := member(answer, "client_id", api.MemText)
	scope, _ := member(answer, "scope", api.MemText)
	t := told{user: user.Text, client: client.Text, until: math.MaxInt}
	if exp, ends := member(answer, "exp", api.MemNum); ends {
		t.until = exp.Num
	}
	if !active.Flag || !t.counts(now) {
		return told{}, false
	}
	// A text that is refused comes with no scopes: nothing is allowed by it.
	t.scopes, _ = terms.Scopes(scope.Text)
	return t, true
}

// member is the one of that name, if there is just one, and of that kind.
func member(answer []api.Member, name string, kind int) (api.Member, bool) {
	var found api.Member
	count := 0
	for _, m := range answer {
		if m.Name == name {
			found = m
			count++
		}
	}
	if count != 1 || found.Kind != kind {
		return api.Member{}, false
	}
	return found, true
}
