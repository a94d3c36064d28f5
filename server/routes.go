package server

import (
	"strings"

	"usher/api"
)

// The methods that a path may have.
const (
	get  = "GET"
	head = "HEAD"
	post = "POST"
)

// A deed is what is done for a request. Its error is a desk's refusal.
type deed func(v *Server, q visit) (api.Reply, error)

// A way is a method of a path, and what is done then.
type way struct {
	method string
	serve  deed
}

// A route is a path, how an error is told there, and its ways.
type route struct {
	path   string
	refuse func(status int, word string) api.Reply
	ways   []way
}

// routes are all that there are. HEAD is served as GET is: who writes the answer leaves the body out.
func routes() []route {
	return []route{
		{"/", errorPage, []way{{get, (*Server).home}, {head, (*Server).home}}},
		{"/login", errorPage, []way{{get, (*Server).loginPage}, {head, (*Server).loginPage}, {post, (*Server).login}}},
		{"/logout", errorPage, []way{{post, (*Server).logout}}},
		{"/authorize", errorPage, []way{{get, (*Server).authorize}}},
		{"/consent", errorPage, []way{{post, (*Server).consent}}},
		{"/withdraw", errorPage, []way{{post, (*Server).withdraw}}},
		{"/token", errorObject, []way{{post, (*Server).giveToken}}},
		{"/introspect", errorObject, []way{{post, (*Server).introspect}}},
		{"/revoke", errorObject, []way{{post, (*Server).revoke}}},
	}
}

// routeOf is the route of a path; else one without a way.
func routeOf(path string) (route, bool) {
	for _, r := range routes() {
		if r.path == path {
			return r, true
		}
	}
	return route{}, false
}

// deedFor is what is done for a method, if the route has it.
func (r route) deedFor(method string) (deed, bool) {
	for _, w := range r.ways {
		if w.method == method {
			return w.serve, true
		}
	}
	return nil, false
}

// allow is the route's methods, as an Allow field says them.
func (r route) allow() string {
	var methods []string
	for _, w := range r.ways {
		methods = append(methods, w.method)
	}
	return strings.Join(methods, ", ")
}

// refused is the answer to what a desk refuses; behind api.ErrDead there is none.
func (r route) refused(err error) (api.Reply, error) {
	switch err {
	case api.ErrDead:
		return api.Reply{}, api.ErrDead
	case api.ErrFull:
		return r.refuse(503, api.TemporarilyUnavailable), nil
	}
	return r.refuse(500, api.ServerError), nil
}
