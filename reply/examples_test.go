package reply_test

import (
	"strings"
	"testing"

	"usher/api"
)

// TestExamples goes down the chapter's table.
func TestExamples(t *testing.T) {
	mustRender(t, ok(nil, "hi"), false, "HTTP/1.1 200 OK\r\nContent-Length: 2\r\nConnection: keep-alive\r\n\r\nhi")
	mustRender(t, ok(nil, "hi"), true, "HTTP/1.1 200 OK\r\nContent-Length: 2\r\nConnection: keep-alive\r\n\r\n")
	mustRender(t, api.Reply{Status: 303, Fields: pairs("Location", "/login"), Close: true}, false, "HTTP/1.1 303 See Other\r\nLocation: /login\r\nContent-Length: 0\r\nConnection: close\r\n\r\n")
	for _, status := range []int{204, 0, -200} {
		mustNotRender(t, api.Reply{Status: status}, api.ErrArg)
	}
	mustNotRender(t, ok(pairs("a", "b\r\nSet-Cookie: c=d"), ""), api.ErrArg)
	for _, f := range [][]api.Pair{pairs("a b", "c"), pairs("", "c"), pairs("content-LENGTH", "0"), pairs("a", " b")} {
		mustNotRender(t, ok(f, ""), api.ErrArg)
	}
	mustNotRender(t, api.Reply{Status: 204, Fields: numbered(65)}, api.ErrMany)

	whole := "HTTP/1.1 200 OK\r\nContent-Length: 2\r\nConnection: close\r\n\r\nhiHTTP"
	mustRead(t, "P8.3", whole, api.Reply{Status: 200, Body: "hi", Close: true}, 59)
	mustNotRead(t, "P8.3", whole[:len(whole)-5], api.ErrShort)
	mustNotRead(t, "P8.3", "", api.ErrShort)
	mustNotRead(t, "P8.3", "nonsense", api.ErrShort)
	for _, s := range []string{
		"HTTP/1.1 200 Fine\r\nContent-Length: 0\r\nConnection: close\r\n\r\n",
		"HTTP/1.1 200 OK\r\n\r\n",
		"HTTP/1.1 200 OK\r\nContent-Length: 02\r\nConnection: close\r\n\r\nhi",
	} {
		mustNotRead(t, "P8.3", s, api.ErrText)
	}
}

// TestTheWholesAnswer is the answer of DOC.md's example 5.
func TestTheWholesAnswer(t *testing.T) {
	body := `{"access_token":"AgICAgICAgICAgICAgICAgICAgICAgICAgICAgICAgI","token_type":"Bearer","expires_in":3600,"scope":"read"}`
	text := strings.ReplaceAll("HTTP/1.1 200 OK\nContent-Type: application/json\nCache-Control: no-store\nPragma: no-cache\nContent-Length: 117\nConnection: keep-alive\n\n", "\n", "\r\n") + body
	r := ok(pairs("Content-Type", "application/json", "Cache-Control", "no-store", "Pragma", "no-cache"), body)
	mustRender(t, r, false, text)
	mustRead(t, "P8.3", text, r, len(text))
}
