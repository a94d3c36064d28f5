package server

import (
	"usher/api"
	"usher/field"
	"usher/jsonobj"
	"usher/page"
)

// pageAnswer is a page, with more fields behind those of every page. page.Page takes it: each of its inputs has a name, and no hidden one has a label.
func pageAnswer(status int, p api.Page, more ...api.Pair) api.Reply {
	body, _ := page.Page(p)
	fields := []api.Pair{
		{Name: "Content-Type", Value: "text/html; charset=utf-8"},
		{Name: "Cache-Control", Value: "no-store"},
		{Name: "X-Frame-Options", Value: "DENY"},
		{Name: "Referrer-Policy", Value: "no-referrer"},
	}
	return api.Reply{Status: status, Fields: append(fields, more...), Body: body}
}

func errorOf(line string) api.Page {
	return api.Page{Title: "Error", Lines: []string{line}}
}

// errorPage is how the front tells an error.
func errorPage(status int, line string) api.Reply {
	return pageAnswer(status, errorOf(line))
}

// object is an object of these members, with more fields behind those of every object. jsonobj.Object takes them: they are few, of different names, and all that is kept is plain.
func object(status int, members []api.Member, more ...api.Pair) api.Reply {
	answer := api.Reply{Status: status}
	if len(members) > 0 {
		answer.Fields = []api.Pair{{Name: "Content-Type", Value: "application/json"}}
		answer.Body, _ = jsonobj.Object(members)
	}
	answer.Fields = append(answer.Fields,
		api.Pair{Name: "Cache-Control", Value: "no-store"},
		api.Pair{Name: "Pragma", Value: "no-cache"},
	)
	answer.Fields = append(answer.Fields, more...)
	return answer
}

// errorObject is how the back tells an error.
func errorObject(status int, word string) api.Reply {
	return object(status, []api.Member{{Name: "error", Kind: api.MemText, Text: word}})
}

// redirect sends the browser on, with more fields behind those of every redirect.
func redirect(to string, more ...api.Pair) api.Reply {
	fields := []api.Pair{
		{Name: "Location", Value: to},
		{Name: "Cache-Control", Value: "no-store"},
	}
	return api.Reply{Status: 303, Fields: append(fields, more...)}
}

// sidCookie lets the browser keep a session's identifier for so long; not at all, if it is 0. field.SetCookie takes it: an identifier is made of cookie bytes.
func sidCookie(sid string, life int) api.Pair {
	value, _ := field.SetCookie(api.Cookie{Name: sidName, Value: sid, MaxAge: life})
	return api.Pair{Name: "Set-Cookie", Value: value}
}
