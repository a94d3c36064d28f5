package agent

import (
	"strconv"

	"usher/api"
	"usher/field"
)

const formMedia = "application/x-www-form-urlencoded"

func (a *Agent) get(target string) api.Request {
	return api.Request{Method: "GET", Target: target, Minor: 1, Fields: a.head()}
}

func (a *Agent) post(target, body string) api.Request {
	fields := append(a.head(),
		api.Pair{Name: "content-type", Value: formMedia},
		api.Pair{Name: "content-length", Value: strconv.Itoa(len(body))})
	return api.Request{Method: "POST", Target: target, Minor: 1, Fields: fields, Body: body}
}

// head is the fields that every request has, with the cookies at the agent's time.
func (a *Agent) head() []api.Pair {
	fields := []api.Pair{{Name: "host", Value: "usher"}}
	// The jar holds only what ReadSetCookie has read, and no more than may be sent: it is never refused.
	if text, _ := field.CookieText(a.jar.list(a.time)); text != "" {
		fields = append(fields, api.Pair{Name: "cookie", Value: text})
	}
	return fields
}
