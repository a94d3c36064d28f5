package intake_test

import (
	"math"
	"strings"
	"testing"

	"usher/api"
	"usher/intake"
)

func TestNewTakesItsLimitsAlone(t *testing.T) {
	for _, l := range []limits{
		{0, 0}, {-1, 0}, {65537, 0}, {math.MaxInt, 0}, {math.MinInt, 0}, {0, 65536},
		{1, -1}, {1, 65537}, {1, math.MaxInt}, {65536, math.MinInt}, {0, -1}, {65537, 65537},
	} {
		if p, err := intake.New(l.head, l.body); p != nil || err != api.ErrArg {
			t.Errorf("P7.1: New(%d, %d) = %v, %v, want nil and ErrArg", l.head, l.body, p, err)
		}
	}
	for _, l := range []limits{{1, 0}, {1, 65536}, {65536, 0}, {65536, 65536}, {200, 10}} {
		p := l.begin(t)
		if left := p.Left(); left != 0 {
			t.Errorf("P7.1: behind New(%d, %d) wait %d bytes", l.head, l.body, left)
		}
		if q, number := p.Next(); number != 0 || !same(q, api.Request{}) {
			t.Errorf("P7.2: behind New(%d, %d) Next answers %+v, %d", l.head, l.body, q, number)
		}
	}
}

func TestFeedPutsBehind(t *testing.T) {
	p := little.begin(t)
	left := 0
	for _, chunk := range []string{"", "G", "", "ET / HT", "TP/1.0\r\nConnection: keep-alive\r\n", "\r\nrest"} {
		p.Feed(chunk)
		left += len(chunk)
		if p.Left() != left {
			t.Errorf("P7.1: behind %q wait %d bytes, want %d", chunk, p.Left(), left)
		}
	}
	want := api.Request{Method: "GET", Target: "/", Fields: pairs("connection", "keep-alive")}
	if q, number := p.Next(); number != 1 || !same(q, want) {
		t.Errorf("P7.1: of chunks comes %+v, %d, want %+v", q, number, want)
	}
	if p.Left() != 4 {
		t.Errorf("P7.1: behind a request wait %d bytes, want 4", p.Left())
	}
	if q, number := p.Next(); number != 0 || !same(q, api.Request{}) || p.Left() != 4 {
		t.Errorf("P7.2: behind a request Next answers %+v, %d, and %d are left", q, number, p.Left())
	}
}

func TestIntakesKnowNothingOfOneAnother(t *testing.T) {
	a, b, c := little.begin(t), little.begin(t), limits{30, 0}.begin(t)
	a.Feed("GET /a HTTP/1.1\r\nHost: ")
	b.Feed("\r\n\r\n")
	c.Feed("GET /c HTTP/1.1\r\nHost: c\r\n\r\n")
	if _, number := b.Next(); number != 400 {
		t.Errorf("P7.1: the second Intake answers %d", number)
	}
	a.Feed("a\r\n\r\n")
	if q, number := a.Next(); number != 1 || q.Target != "/a" || q.Fields[0].Value != "a" {
		t.Errorf("P7.1: the first Intake answers %+v, %d", q, number)
	}
	if q, number := c.Next(); number != 1 || q.Target != "/c" || a.Left() != 0 || b.Left() != 0 {
		t.Errorf("P7.1: the third Intake answers %+v, %d", q, number)
	}
}

const sound = "GET / HTTP/1.1\r\nHost: x\r\n\r\n"

func TestARefusalIsKept(t *testing.T) {
	const chunked = "POST / HTTP/1.1\r\nHost: x\r\nTransfer-Encoding: chunked\r\n\r\n"
	for s, want := range map[string]int{
		"\r\n\r\n":                                     400,
		sound[:16] + "\r\n":                            400,
		"GET / HTTP/1.1\r\nb\r\n\r\n":                  400,
		"GET / HTTP/3.0\r\n\r\n":                       505,
		sound[:25] + "Expect: x\r\n\r\n":               417,
		strings.Repeat("a", 200):                       431,
		chunked + "x\r\n":                              400,
		chunked + "b\r\n":                              413,
		chunked + "1\r\nabc":                           400,
		chunked + strings.Repeat("1", 200):             431,
		sound[:25] + "Content-Length: 11\r\n\r\n":      413,
		sound[:25] + "Transfer-Encoding: gzip\r\n\r\n": 501,
	} {
		p := little.begin(t)
		p.Feed(s + "behind")
		if p.Left() != len(s)+6 {
			t.Errorf("P7.2: ahead of the refusal of %q wait %d bytes", s, p.Left())
		}
		for range 4 {
			if q, number := p.Next(); number != want || !same(q, api.Request{}) || p.Left() != 0 {
				t.Errorf("P7.2: of %q comes %+v, %d, and %d are left, want %d", s, q, number, p.Left(), want)
			}
			p.Feed(sound)
			if p.Left() != 0 {
				t.Errorf("P7.2: behind the refusal of %q wait %d bytes", s, p.Left())
			}
		}
	}
}

func TestACloseIsKept(t *testing.T) {
	for _, s := range []string{
		"GET / HTTP/1.0\r\n\r\n",
		"GET / HTTP/1.1\r\nHost: x\r\nConnection: close\r\n\r\n",
		"GET / HTTP/1.1\r\nHost: x\r\nConnection: close\r\nContent-Length: 2\r\n\r\nab",
		"GET / HTTP/1.1\r\nHost: x\r\nConnection: close\r\nTransfer-Encoding: chunked\r\n\r\n1\r\na\r\n0\r\n\r\n",
	} {
		for _, behind := range []string{"", sound, "\r\n\r\n", strings.Repeat("a", 300)} {
			p := little.begin(t)
			p.Feed(s + behind)
			if q, number := p.Next(); number != 1 || !q.Close || p.Left() != 0 {
				t.Errorf("P7.2: of %q comes %+v, %d, and %d are left", s+behind, q, number, p.Left())
			}
			for range 4 {
				if q, number := p.Next(); number != 0 || !same(q, api.Request{}) || p.Left() != 0 {
					t.Errorf("P7.2: behind a Close comes %+v, %d, and %d are left", q, number, p.Left())
				}
				p.Feed(sound + behind)
				if p.Left() != 0 {
					t.Errorf("P7.2: behind a Close wait %d bytes", p.Left())
				}
			}
		}
	}
}

// TestWantingChangesNothing asks again and again while bytes are missing.
func TestWantingChangesNothing(t *testing.T) {
	for _, s := range []string{
		"\r\nPOST / HTTP/1.1\r\nHost: x\r\nContent-Length: 5\r\n\r\n\r\n\r\n.",
		"POST / HTTP/1.1\r\nHost: x\r\nTransfer-Encoding: chunked\r\n\r\n3;a\r\n\r\n0\r\n2\r\n\r\n\r\n0\r\na: b\r\n\r\n",
	} {
		want := little.expected(s)
		p := little.begin(t)
		for i := range len(s) - 1 {
			p.Feed(s[i : i+1])
			for range 3 {
				if q, number := p.Next(); number != 0 || !same(q, api.Request{}) || p.Left() != i+1 {
					t.Errorf("P7.2: of %q comes %+v, %d, and %d are left", s[:i+1], q, number, p.Left())
				}
			}
		}
		p.Feed(s[len(s)-1:])
		if q, number := p.Next(); number != 1 || !same(q, want.requests[0]) || p.Left() != 0 {
			t.Errorf("P7.2: of %q comes %+v, %d, want %+v", s, q, number, want.requests[0])
		}
	}
}

// TestNextTakesOneRequest asks for requests that all wait.
func TestNextTakesOneRequest(t *testing.T) {
	p := little.begin(t)
	p.Feed(strings.Repeat(sound, 5) + "G")
	for i := range 5 {
		q, number := p.Next()
		if number != 1 || q.Target != "/" || p.Left() != len(sound)*(4-i)+1 {
			t.Errorf("P7.2: request %d is %+v, %d, and %d are left", i, q, number, p.Left())
		}
	}
	if _, number := p.Next(); number != 0 || p.Left() != 1 {
		t.Errorf("P7.2: behind five requests comes %d, and %d are left", number, p.Left())
	}
}
