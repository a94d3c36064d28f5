package server_test

import (
	"testing"

	"usher/api"
	"usher/server"
)

// TestExamples: the rows of the chapter.
func TestExamples(t *testing.T) {
	b := newBench(t, config())
	if server.Allow("/login") != "GET, HEAD, POST" || server.Allow("/login/") != "" || server.Allow("") != "" {
		t.Error("1")
	}
	notFound := api.Reply{Status: 404, Fields: pairs("Content-Type", "text/html; charset=utf-8", "Cache-Control", "no-store", "X-Frame-Options", "DENY", "Referrer-Policy", "no-referrer"), Body: `<!DOCTYPE html>
<html lang="en">
<head>
<meta charset="utf-8">
<title>Error</title>
</head>
<body>
<h1>Error</h1>
<p>Not Found</p>
</body>
</html>
`}
	b.mustKeep(notFound, 0, getting("/nothing"))                                                                                  // 2
	b.mustKeep(errorPage(405, "Method Not Allowed", "Allow", "POST"), 0, request("PUT", "/token"))                                // 3
	b.mustKeep(errorObject(415, "invalid_request"), 0, request("POST", "/token"))                                                 // 4
	b.push(1, 2)                                                                                                                  //
	b.must(entered("/", id(1)), 0, sending("/login", "user=ann&pass=pw&next=//evil.example"))                                     // 5
	b.must(entered("/authorize?client_id=app", id(2)), 0, login("ann", "pw", "next", "/authorize?client_id=app"))                 // 6
	b.mustKeep(left, 0, logout())                                                                                                 // 7
	b.mustKeep(redirect("/login?next="+"%2Fauthorize%3F"+escapedForm(question("read"))), 0, authorize(question("read")))          // 8
	b.mustKeep(strangers, 0, getting("/", "cookie", "sid="+id(1), "cookie", "sid="+id(2)))                                        // 9
	b.mustKeep(api.Reply{Status: 200, Fields: pairs("Cache-Control", "no-store", "Pragma", "no-cache")}, 0, revoking("nobody's")) // 10
}

// escapedForm is a form within a form.
func escapedForm(params []api.Pair) string {
	return formOf(pairs("", formOf(params)))[1:]
}
