package agent

import (
	"strings"

	"usher/api"
)

// isPlace: is that a place on this server? A browser takes what begins with two slashes, or with a slash and a backslash, for the name of another one.
func isPlace(s string) bool {
	if s == "" || s[0] != '/' || len(s) > 1 && (s[1] == '/' || s[1] == '\\') {
		return false
	}
	for i := range len(s) {
		if s[i] < 0x21 || s[i] > 0x7e {
			return false
		}
	}
	return true
}

// timeOf is the time of a call that is handed now.
func (a *Agent) timeOf(now int) int { return max(now, a.time) }

// goOn lets the agent's time go on. What does not last then lasts never again.
func (a *Agent) goOn(now int) {
	a.time = a.timeOf(now)
	a.jar.drop(a.time)
}

// begin is the beginning of a way: a request that no answer has led to.
func (a *Agent) begin(now int) {
	a.goOn(now)
	a.waits, a.hops = true, 0
}

// arrive is what every answer does: nothing waits any more, and what was there before it is gone.
func (a *Agent) arrive() {
	a.page, a.atPage = api.Page{}, false
	a.where, a.waits = "", false
}

// follow goes to where an answer sends the agent, as long as that is on this server.
func (a *Agent) follow(to string) (api.Request, int, error) {
	switch {
	case !isPlace(to):
		a.where = strings.Clone(to)
		return api.Request{}, sentAway, nil
	case a.hops >= api.MaxHops:
		return api.Request{}, stays, api.ErrMany
	}
	a.hops++
	a.waits = true
	return a.get(to), goesOn, nil
}
