package record

import "usher/api"

// coder is handed the places of a record's fields one by one: a writer looks at what stands there, a reader fills it in.
type coder interface {
	kind(place *int)
	text(place *string)
	list(place *[]string)
	number(place *int)
}

// walk is the one place that tells how a record lies in bytes. Who reads has the kind filled in ahead of the fields that hang on it; a kind that there is not has none.
func walk(r *api.Record, c coder) {
	c.kind(&r.Kind)
	if names(r.Kind, hasID) {
		c.text(&r.ID)
	}
	switch r.Kind {
	case api.RecCode:
		c.text(&r.Redirect)
		c.text(&r.Challenge)
	case api.RecToken, api.RecRefresh:
		c.text(&r.Code)
	}
	switch r.Kind {
	case api.RecCode, api.RecToken, api.RecRefresh, api.RecConsent:
		c.text(&r.Client)
		c.list(&r.Scopes)
		fallthrough
	case api.RecSession:
		c.text(&r.User)
		c.number(&r.At)
	case api.RecWithdrawn:
		c.text(&r.Client)
		c.text(&r.User)
	}
}
