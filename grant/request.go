package grant

import (
	"usher/api"
	"usher/pct"
	"usher/pkce"
	"usher/registry"
	"usher/terms"
)

// The names of the parameters. The first seven are those of an authorization request.
const (
	clientName    = "client_id"
	redirectName  = "redirect_uri"
	typeName      = "response_type"
	scopeName     = "scope"
	stateName     = "state"
	challengeName = "code_challenge"
	methodName    = "code_challenge_method"
	codeName      = "code"
	errorName     = "error"
	ticketName    = "ticket"
	decisionName  = "decision"
	grantName     = "grant:" // a scope stands behind it
)

// The values that a parameter may have.
const (
	codeType   = "code"
	s256Method = "S256"
	allow      = "allow"
	deny       = "deny"
	yes        = "yes"
)

// A request is an authorization request as far as it has been read, and, once it is known to be well-formed, who sends it.
type request struct {
	config       api.Config
	params       []api.Pair
	id           string // the client's
	client       api.Client
	redirect     string
	state        string // empty if there is none, or none that is good
	responseType string
	scopes       []string
	challenge    string

	now       int
	sid, user string
}

// A rule reads one more part of a request, behind those that the rules ahead of it have read; where that part is not as it must be, it refuses the request.
type rule struct {
	holds  func() bool
	refuse func(reason string) api.Verdict
	reason string
}

// rules are in the order in which they are asked: no error is sent to an address ahead of its being known as the client's.
func (q *request) rules() []rule {
	return []rule{
		{q.namesOneClient, shown, api.InvalidRequest},
		{q.namesItsClient, shown, api.InvalidClient},
		{q.namesItsAddress, shown, api.InvalidRequest},
		{q.hasNoBadState, q.sentBack, api.InvalidRequest},
		{q.hasOneType, q.sentBack, api.InvalidRequest},
		{q.asksForCode, q.sentBack, api.UnsupportedResponseType},
		{q.asksForItsScopes, q.sentBack, api.InvalidScope},
		{q.hasChallenge, q.sentBack, api.InvalidRequest},
		{q.hasMethod, q.sentBack, api.InvalidRequest},
	}
}

// read is the verdict of the first rule that does not hold; one of no kind, if the request is well-formed.
func (q *request) read() api.Verdict {
	for _, rule := range q.rules() {
		if !rule.holds() {
			return rule.refuse(rule.reason)
		}
	}
	return api.Verdict{}
}

// once is the value of a parameter that is there just once.
func once(params []api.Pair, name string) (string, bool) {
	value, count := pct.Get(params, name)
	if count != 1 {
		return "", false
	}
	return value, true
}

func (q *request) namesOneClient() (ok bool) {
	q.id, ok = once(q.params, clientName)
	return ok
}

func (q *request) namesItsClient() (ok bool) {
	q.client, ok = registry.FindClient(q.config, q.id)
	return ok
}

func (q *request) namesItsAddress() (ok bool) {
	q.redirect, ok = once(q.params, redirectName)
	return ok && registry.Registered(q.client, q.redirect)
}

// hasNoBadState keeps a state only if it is good: a bad one must not be sent back.
func (q *request) hasNoBadState() bool {
	state, count := pct.Get(q.params, stateName)
	if count == 0 {
		return true
	}
	if count > 1 || !terms.State(state) {
		return false
	}
	q.state = state
	return true
}

func (q *request) hasOneType() (ok bool) {
	q.responseType, ok = once(q.params, typeName)
	return ok
}

func (q *request) asksForCode() bool { return q.responseType == codeType }

func (q *request) asksForItsScopes() bool {
	text, ok := once(q.params, scopeName)
	if !ok {
		return false
	}
	scopes, err := terms.Scopes(text)
	q.scopes = scopes
	return err == nil && terms.Within(scopes, q.client.Scopes)
}

func (q *request) hasChallenge() (ok bool) {
	q.challenge, ok = once(q.params, challengeName)
	return ok && pkce.Challenge(q.challenge)
}

func (q *request) hasMethod() bool {
	method, ok := once(q.params, methodName)
	return ok && method == s256Method
}

// question is what a well-formed request asks, in one spelling.
func (q *request) question() []api.Pair {
	list := []api.Pair{
		{Name: clientName, Value: q.id},
		{Name: redirectName, Value: q.redirect},
		{Name: typeName, Value: codeType},
		{Name: scopeName, Value: terms.ScopeText(q.scopes)},
	}
	list = append(list, q.stateIfAny()...)
	return append(list,
		api.Pair{Name: challengeName, Value: q.challenge},
		api.Pair{Name: methodName, Value: s256Method},
	)
}

func (q *request) stateIfAny() []api.Pair {
	if q.state == "" {
		return nil
	}
	return []api.Pair{{Name: stateName, Value: q.state}}
}

// approved is the scopes of the question that the user has ticked.
func (q *request) approved() []string {
	var list []string
	for _, scope := range q.scopes {
		if value, ok := once(q.params, grantName+scope); ok && value == yes {
			list = append(list, scope)
		}
	}
	return list
}

// holdsTicket: do the parameters show the ticket of that session and that question?
func holdsTicket(params []api.Pair, sid string, question []api.Pair) bool {
	ticket, ok := once(params, ticketName)
	return ok && pkce.Same(ticket, Ticket(sid, question))
}
