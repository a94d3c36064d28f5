package reply_test

import (
	"fmt"
	"math"
	"strconv"
	"strings"
	"testing"

	"usher/api"
	"usher/reply"
)

func TestReason(t *testing.T) {
	for status := -2000; status < 70000; status++ {
		if got := reply.Reason(status); got != phrases[status] {
			t.Errorf("P8.1: Reason(%d) = %q, want %q", status, got, phrases[status])
		}
	}
	for status := range phrases {
		for _, other := range []int{-status, status + 1<<8, status + 1<<16, status + 1<<32, math.MinInt + status, math.MaxInt - status} {
			if got := reply.Reason(other); got != "" {
				t.Errorf("P8.1: Reason(%d) = %q, want nothing", other, got)
			}
		}
	}
}

func TestEveryStatusIsWritten(t *testing.T) {
	for status, phrase := range phrases {
		first := "HTTP/1.1 " + strconv.Itoa(status) + " " + phrase + "\r\n"
		mustRender(t, api.Reply{Status: status}, false, first+"Content-Length: 0\r\nConnection: keep-alive\r\n\r\n")
		mustRender(t, api.Reply{Status: status, Close: true}, true, first+"Content-Length: 0\r\nConnection: close\r\n\r\n")
		mustRender(t, api.Reply{Status: status, Fields: pairs("a", "b"), Body: "body", Close: true}, false, first+"a: b\r\nContent-Length: 4\r\nConnection: close\r\n\r\nbody")
		mustRender(t, api.Reply{Status: status, Fields: pairs("a", "b"), Body: "body"}, true, first+"a: b\r\nContent-Length: 4\r\nConnection: keep-alive\r\n\r\n")
	}
	for status := -1000; status < 2000; status++ {
		if phrases[status] == "" {
			mustNotRender(t, api.Reply{Status: status, Fields: pairs("a", "b"), Body: "body"}, api.ErrArg)
		}
	}
	for _, status := range []int{math.MinInt, math.MaxInt, 200 + 1<<32, math.MinInt + 200} {
		mustNotRender(t, api.Reply{Status: status}, api.ErrArg)
	}
}

func TestFieldsAreWrittenAsTheyStand(t *testing.T) {
	fields := pairs("b", "2", "A", "", "a", "x  y\tz: w", "b", "1", "B", "\xe9\x80", "!#$%&'*+-.^_`|~9", ":", "Content-Lengths", "5", "Connection-", "close", "ransfer-Encoding", "chunked", "Content", "Length: 1")
	lines := "b: 2\r\nA: \r\na: x  y\tz: w\r\nb: 1\r\nB: \xe9\x80\r\n!#$%&'*+-.^_`|~9: :\r\nContent-Lengths: 5\r\nConnection-: close\r\nransfer-Encoding: chunked\r\nContent: Length: 1\r\n"
	mustRender(t, ok(fields, "\r\n"), false, "HTTP/1.1 200 OK\r\n"+lines+"Content-Length: 2\r\nConnection: keep-alive\r\n\r\n\r\n")
}

// TestEveryByte puts each byte at each place of a name and of a value.
func TestEveryByte(t *testing.T) {
	for n := range 256 {
		for _, s := range []string{oneByte(n), "a" + oneByte(n), oneByte(n) + "a", "a" + oneByte(n) + "b", oneByte(n) + oneByte(n)} {
			mustRenderAsExpected(t, ok(pairs(s, "v"), "x"))
			mustRenderAsExpected(t, ok(pairs("n", s), "x"))
			mustRenderAsExpected(t, ok(pairs("n", "v", s, s), "x"))
		}
	}
	for _, white := range []string{" ", "\t"} {
		mustRenderAsExpected(t, ok(pairs("a", "b"+white+"c"), ""))
		for _, value := range []string{white, white + "b", "b" + white, white + white} {
			mustNotRender(t, ok(pairs("a", value), ""), api.ErrArg)
		}
	}
	for _, value := range []string{"\r", "\n", "b\r\nc", "b\r\n", "\r\n", "b\nc: d", "\x00", "\x7f", "b\x1fc"} {
		mustNotRender(t, ok(pairs("a", value), ""), api.ErrArg)
	}
}

// inEveryCase hands on each spelling of a name.
func inEveryCase(done, name string, play func(string)) {
	if name == "" {
		play(done)
		return
	}
	large, small := strings.ToUpper(name[:1]), strings.ToLower(name[:1])
	inEveryCase(done+small, name[1:], play)
	if large != small {
		inEveryCase(done+large, name[1:], play)
	}
}

func TestNamesThatMayNotBe(t *testing.T) {
	for _, name := range []string{"Content-Length", "Connection", "Transfer-Encoding"} {
		inEveryCase("", name, func(spelt string) {
			if got, err := reply.Render(ok(pairs("a", "b", spelt, "0"), ""), false); got != "" || err != api.ErrArg {
				t.Errorf("P8.2: a field %s gives %.300q, %v, want nothing and ErrArg", spelt, got, err)
			}
		})
		mustNotRender(t, ok(pairs(strings.ToUpper(name), ""), ""), api.ErrArg)
		changedAt(name, func(s string) {
			mustRenderAsExpected(t, ok(pairs(s, "0"), ""))
		})
	}
	for _, like := range []string{"Content_Length", "ContentLength", "Content-Lengt", "X-Connection", "Tranſfer-Encoding", "Connection:", "Content-Length ", "Trailer", "Content-Type", "Keep-Alive", "Upgrade"} {
		mustRenderAsExpected(t, ok(pairs(like, "0"), ""))
	}
}

// TestAFaultAtAnyPlace: one field that may not be is enough, wherever it stands.
func TestAFaultAtAnyPlace(t *testing.T) {
	for at := range 64 {
		for _, fault := range []api.Pair{{Name: "", Value: "v"}, {Name: "a:", Value: "v"}, {Name: "connection", Value: "close"}, {Name: "a", Value: "\n"}} {
			fields := numbered(64)
			fields[at] = fault
			mustNotRender(t, ok(fields, "x"), api.ErrArg)
		}
	}
}

func TestLimitsOfWriting(t *testing.T) {
	full := strings.Repeat("x", 1048576)
	for count := range 67 {
		mustRenderAsExpected(t, ok(numbered(count), "x"))
	}
	text := written(t, ok(numbered(64), ""))
	if strings.Count(text, "\r\nX-") != 64 {
		t.Errorf("P8.2: of 64 fields are written %d", strings.Count(text, "\r\nX-"))
	}
	head := "HTTP/1.1 200 OK\r\nContent-Length: 1048576\r\nConnection: keep-alive\r\n\r\n"
	mustRender(t, ok(nil, full), false, head+full)
	mustRender(t, ok(nil, full), true, head)
	mustNotRender(t, ok(nil, full+"x"), api.ErrMany)
	mustNotRender(t, ok(numbered(65), ""), api.ErrMany)
	mustNotRender(t, ok(make([]api.Pair, 1<<16), ""), api.ErrMany)
	for _, size := range []int{0, 1, 9, 10, 11, 99, 100, 999, 1000, 65536, 99999, 100000, 999999, 1000000, 1048575} {
		mustRender(t, ok(nil, full[:size]), true, fmt.Sprintf("HTTP/1.1 200 OK\r\nContent-Length: %d\r\nConnection: keep-alive\r\n\r\n", size))
	}
	long := strings.Repeat("v", 1<<20+7)
	mustRender(t, ok(pairs(long, long), ""), false, "HTTP/1.1 200 OK\r\n"+long+": "+long+"\r\nContent-Length: 0\r\nConnection: keep-alive\r\n\r\n")
}

// TestManyComesAhead lays two faults down at once.
func TestManyComesAhead(t *testing.T) {
	over := strings.Repeat("x", 1048577)
	for _, fault := range []api.Pair{{}, {Name: "a b", Value: "v"}, {Name: "Content-Length", Value: "0"}, {Name: "a", Value: " b"}} {
		for _, status := range []int{200, 204, 0, -1} {
			for _, at := range []int{0, 31, 64} {
				fields := numbered(65)
				fields[at] = fault
				mustNotRender(t, api.Reply{Status: status, Fields: fields}, api.ErrMany)
				mustNotRender(t, api.Reply{Status: status, Fields: fields[:at], Body: over}, api.ErrMany)
			}
			mustNotRender(t, api.Reply{Status: status, Fields: []api.Pair{fault}, Body: over}, api.ErrMany)
			mustNotRender(t, api.Reply{Status: status, Fields: []api.Pair{fault}, Body: over[1:]}, api.ErrArg)
		}
	}
	mustNotRender(t, api.Reply{Status: 204, Body: over}, api.ErrMany)
	mustNotRender(t, api.Reply{Status: 204, Body: over[1:], Fields: numbered(64)}, api.ErrArg)
}
