package grant

import (
	"usher/api"
	"usher/terms"
)

// shown is an error that the user sees: there is no address to which it could be sent.
func shown(reason string) api.Verdict {
	return api.Verdict{Kind: api.VerPage, Error: reason}
}

func (q *request) sentBack(reason string) api.Verdict {
	return api.Verdict{Kind: api.VerRedirect, Error: reason, To: q.backWith(errorName, reason)}
}

func (q *request) sentCode(id string) api.Verdict {
	return api.Verdict{Kind: api.VerRedirect, Code: id, To: q.backWith(codeName, id)}
}

// backWith is the client's address with that parameter and the state. It is registered, so terms.Answer takes it.
func (q *request) backWith(name, value string) string {
	to, _ := terms.Answer(q.redirect, append([]api.Pair{{Name: name, Value: value}}, q.stateIfAny()...))
	return to
}

func (q *request) toLogin() api.Verdict {
	return api.Verdict{Kind: api.VerLogin, Params: q.question()}
}

func (q *request) toConsent() api.Verdict {
	question := q.question()
	return api.Verdict{
		Kind: api.VerConsent, Client: q.id, User: q.user,
		Scopes: q.scopes, Params: question, Ticket: Ticket(q.sid, question),
	}
}
