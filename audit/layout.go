package audit

import "usher/api"

// The fields of a record.
const (
	fieldID = iota
	fieldUser
	fieldClient
	fieldRedirect
	fieldChallenge
	fieldCode
	fieldAt
	fieldScopes
)

// layout is what a line holds: its word, and behind it these fields, in their order.
type layout struct {
	word   string
	fields []int
}

// layouts is the lines of the kinds. There is no kind 0: it has no fields, and a word that no other kind has is taken for its own.
var layouts = [...]layout{
	api.RecSession:   {"session", []int{fieldID, fieldUser, fieldAt}},
	api.RecEnded:     {"ended", []int{fieldID}},
	api.RecConsent:   {"consent", []int{fieldUser, fieldClient, fieldAt, fieldScopes}},
	api.RecCode:      {"code", []int{fieldID, fieldUser, fieldClient, fieldRedirect, fieldChallenge, fieldAt, fieldScopes}},
	api.RecRedeemed:  {"redeemed", []int{fieldID}},
	api.RecToken:     {"token", []int{fieldID, fieldUser, fieldClient, fieldCode, fieldAt, fieldScopes}},
	api.RecRevoked:   {"revoked", []int{fieldID}},
	api.RecBurned:    {"burned", []int{fieldID}},
	api.RecRefresh:   {"refresh", []int{fieldID, fieldUser, fieldClient, fieldCode, fieldAt, fieldScopes}},
	api.RecTurned:    {"turned", []int{fieldID}},
	api.RecWithdrawn: {"withdrawn", []int{fieldUser, fieldClient}},
}

// kindOf is the kind whose lines begin with that word.
func kindOf(word string) int {
	for kind, line := range layouts {
		if line.word == word {
			return kind
		}
	}
	return 0
}

// scribe is handed the places of what a line tells, one by one: a writer looks at what stands there, a reader fills it in.
type scribe interface {
	kind(place *int)
	text(place *string)
	number(place *int)
	list(place *[]string)
}

// walk hands on a record's kind and then the fields of its line. Who reads has the kind filled in ahead of them.
func walk(r *api.Record, s scribe) {
	s.kind(&r.Kind)
	for _, field := range layouts[r.Kind].fields {
		switch field {
		case fieldID:
			s.text(&r.ID)
		case fieldUser:
			s.text(&r.User)
		case fieldClient:
			s.text(&r.Client)
		case fieldRedirect:
			s.text(&r.Redirect)
		case fieldChallenge:
			s.text(&r.Challenge)
		case fieldCode:
			s.text(&r.Code)
		case fieldAt:
			s.number(&r.At)
		case fieldScopes:
			s.list(&r.Scopes)
		}
	}
}
