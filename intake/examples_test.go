package intake_test

import (
	"strings"
	"testing"

	"usher/api"
)

func TestExamples(t *testing.T) {
	host := pairs("host", "x")
	const rule = "P7.2, an example"
	mustWant(t, rule, little, "")
	mustTake(t, rule, little, "GET /a?b=1 HTTP/1.1\r\nHost: x\r\n\r\n", api.Request{Method: "GET", Target: "/a?b=1", Minor: 1, Fields: host})
	mustTake(t, rule, little, "POST /l HTTP/1.0\r\nContent-Length: 003\r\n\r\nabcdef", api.Request{Method: "POST", Target: "/l", Fields: pairs("content-length", "003"), Body: "abc", Close: true})
	mustPlay(t, rule, little, "POST /l HTTP/1.1\r\nHost: x\r\nContent-Length: 3\r\n\r\nabcdef", lot{
		requests: []api.Request{{Method: "POST", Target: "/l", Minor: 1, Fields: pairs("host", "x", "content-length", "3"), Body: "abc"}}, left: 3})
	mustTake(t, rule, little, "\r\nGET / HTTP/1.1\r\nHost:\r\n\r\n", api.Request{Method: "GET", Target: "/", Minor: 1, Fields: pairs("host", "")})
	mustRefuse(t, rule, little, "\r\n\r\n", 400)
	mustTake(t, rule, little, "GET HTTP://x:80?b HTTP/1.1\r\nHost: x\r\n\r\n", api.Request{Method: "GET", Target: "/?b", Minor: 1, Fields: host})
	mustTake(t, rule, little, "GET http://x HTTP/1.0\r\n\r\n", api.Request{Method: "GET", Target: "/", Close: true})
	mustRefuse(t, rule, little, "GET http:///a HTTP/1.0\r\n\r\n", 400)
	mustRefuse(t, rule, little, "GET  / HTTP/1.1\r\n\r\n", 400)
	mustRefuse(t, rule, little, "GET / HTTP/2.0\r\n\r\n", 505)
	mustRefuse(t, rule, little, "GET / HTTP/1.1\r\n\r\n", 400)
	mustRefuse(t, rule, little, "GET / HTTP/1.1\r\nHost : x\r\n\r\n", 400)
	mustRefuse(t, rule, little, "POST / HTTP/1.1\r\nHost: x\r\nContent-Length: 11\r\n\r\n", 413)
	mustRefuse(t, rule, little, "POST / HTTP/1.1\r\nHost: x\r\nContent-Length: 1\r\nContent-Length: 1\r\n\r\n", 400)
	mustRefuse(t, rule, little, "POST / HTTP/1.1\r\nHost: x\r\nTransfer-Encoding: chunked\r\nContent-Length: 3\r\n\r\n", 400)
	mustRefuse(t, rule, little, "POST / HTTP/1.1\r\nHost: x\r\nTransfer-Encoding: gzip\r\n\r\n", 501)
	mustWant(t, rule, little, strings.Repeat("a", 199))
	mustRefuse(t, rule, little, strings.Repeat("a", 200), 431)
	mustTake(t, rule, little, "GET / HTTP/1.1\r\nHost: x\r\nConnection: foo, Close\r\n\r\nGET", api.Request{Method: "GET", Target: "/", Minor: 1, Fields: pairs("host", "x", "connection", "foo, Close"), Close: true})
}

// TestExampleInTwoChunks is the one whose head comes in two.
func TestExampleInTwoChunks(t *testing.T) {
	first := "GET / HTTP/1.1\r\nhost:\t x \r\n\r"
	mustPlay(t, "P7.2, an example", little, first, lot{left: 28})
	want := lot{requests: []api.Request{{Method: "GET", Target: "/", Minor: 1, Fields: pairs("host", "x")}}, left: 2}
	if got := little.play(t, first, "\nGE"); !sameLot(got, want) {
		t.Errorf("P7.2: of two chunks comes %+v, want %+v", got, want)
	}
}

func TestExamplesOfChunks(t *testing.T) {
	const rule = "P7.5, an example"
	const head = "POST / HTTP/1.1\r\nHost: x\r\nTransfer-Encoding: Chunked\r\n\r\n"
	mustPlay(t, rule, little, head+"3\r\nabc\r\n02;x=\"y\"\r\nde\r\n0\r\nT: u\r\n\r\nGET", lot{
		requests: []api.Request{{Method: "POST", Target: "/", Minor: 1, Fields: pairs("host", "x", "transfer-encoding", "Chunked"), Body: "abcde"}}, left: 3})
	mustRefuse(t, rule, little, head+"b\r\n", 413)
	mustPlay(t, rule, little, head+"3\r\nabcd", lot{left: 63})
	for n := range 256 {
		mustRefuse(t, rule, little, head+"3\r\nabcd"+oneByte(n), 400)
	}
	for _, s := range []string{"x\r\n", "3 \r\n", "\r\n", "000000001\r\n"} {
		mustRefuse(t, rule, little, head+s, 400)
	}
}

func TestExamplesOfWriting(t *testing.T) {
	q := api.Request{Method: "GET", Target: "/", Minor: 1, Fields: pairs("host", "x")}
	mustWrite(t, q, "GET / HTTP/1.1\r\nhost: x\r\n\r\n")
	q.Close = true
	mustNotWrite(t, q)
	q.Close, q.Body = false, "abcd"
	mustChunk(t, q, []int{0, 3}, "GET / HTTP/1.1\r\nhost: x\r\ntransfer-encoding: chunked\r\n\r\n3\r\nabc\r\n1\r\nd\r\n0\r\n\r\n")
}
