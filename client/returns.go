package client

import (
	"strings"

	"usher/api"
	"usher/pct"
	"usher/pkce"
	"usher/terms"
)

// The parameters of which one tells how a request has ended.
const (
	withCode  = "code"
	withError = "error"
)

// resultIn is the parameter of an address that tells how what was begun has ended; false: the address is not its answer.
func (c *Client) resultIn(uri string) (api.Pair, bool) {
	// What is read too kindly here is not written so again.
	added := strings.TrimPrefix(strings.TrimPrefix(uri, c.redirect), "?")
	list, _ := pct.Pairs(added)
	if len(list) != 2 || !isResult(list[0]) || !c.isState(list[1]) {
		return api.Pair{}, false
	}
	answer, err := terms.Answer(c.redirect, list)
	return list[0], err == nil && answer == uri
}

func isResult(p api.Pair) bool {
	return (p.Name == withCode || p.Name == withError) && p.Value != ""
}

func (c *Client) isState(p api.Pair) bool {
	return p.Name == "state" && pkce.Same(p.Value, c.begun.state)
}
