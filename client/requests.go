package client

import (
	"strconv"

	"usher/api"
	"usher/field"
	"usher/pct"
)

const formMedia = "application/x-www-form-urlencoded"

// form is a form that is sent to a place. A public client says its name in it, as it has nothing to show.
func (c *Client) form(place string, params ...api.Pair) api.Request {
	fields := []api.Pair{{Name: "host", Value: "usher"}, {Name: "content-type", Value: formMedia}}
	if c.secret == "" {
		params = append(params, api.Pair{Name: "client_id", Value: c.id})
	} else {
		fields = append(fields, api.Pair{Name: "authorization", Value: field.BasicOf(c.id, c.secret)})
	}
	body := pct.Form(params)
	fields = append(fields, api.Pair{Name: "content-length", Value: strconv.Itoa(len(body))})
	return api.Request{Method: "POST", Target: place, Minor: 1, Fields: fields, Body: body}
}
