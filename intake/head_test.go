package intake_test

import (
	"slices"
	"strconv"
	"strings"
	"testing"

	"usher/api"
)

const (
	line0 = "GET / HTTP/1.0\r\n"
	line1 = "GET / HTTP/1.1\r\n"
	host  = "Host: x\r\n"
)

func TestRequestLines(t *testing.T) {
	for _, method := range []string{"GET", "get", "X", "!#$%&'*+-.^_`|~09azAZ", strings.Repeat("M", 150)} {
		mustTake(t, "P7.3", little, method+" / HTTP/1.1\r\n"+host+"\r\n", api.Request{Method: method, Target: "/", Minor: 1, Fields: pairs("host", "x")})
		mustTake(t, "P7.3", little, method+" / HTTP/1.0\r\n\r\n", api.Request{Method: method, Target: "/", Close: true})
	}
	for _, line := range []string{
		"", " ", "GET", "GET ", "GET /", "GET / ", "GET  HTTP/1.1", "GET HTTP/1.1", " GET / HTTP/1.1", " / HTTP/1.1", "/ HTTP/1.1",
		"GET  / HTTP/1.1", "GET /  HTTP/1.1", "GET / HTTP/1.1 ", "GET\t/ HTTP/1.1", "GET /\tHTTP/1.1", "GET / / HTTP/1.1", "GET /a b HTTP/1.1",
		"G T / HTTP/1.1", "G(T / HTTP/1.1", "GET: / HTTP/1.1", "G\x80T / HTTP/1.1", "GET / HTTP/1.1\r", "GET / HTTP/1.1\n", "\nGET / HTTP/1.1", "\rGET / HTTP/1.1",
		"GET / http/1.1", "GET / Http/1.1", "GET / HTTP/1,1", "GET / HTTP/11", "GET / HTTP/1.", "GET / HTTP/.1", "GET / HTTP/1", "GET / HTTP/", "GET / HTTP 1.1",
		"GET / HTTP/01.1", "GET / HTTP/1.10", "GET / HTTP/1.a", "GET / HTTP/a.1", "GET / HTTP/1.1.1", "GET / HTTPS/1.1", "GET / XHTTP/1.1", "GET / HTTP/1:1", "GET / HTTP/-.1",
	} {
		mustRefuse(t, "P7.3", little, line+"\r\n"+host+"\r\n", 400)
	}
}

func TestVersions(t *testing.T) {
	for major := range 10 {
		for minor := range 10 {
			s := "GET / HTTP/" + strconv.Itoa(major) + "." + strconv.Itoa(minor) + "\r\n" + host + "\r\n"
			if major == 1 && minor < 2 {
				mustTake(t, "P7.3", little, s, api.Request{Method: "GET", Target: "/", Minor: minor, Fields: pairs("host", "x"), Close: minor == 0})
			} else {
				mustRefuse(t, "P7.3", little, s, 505)
			}
		}
	}
}

func TestTargets(t *testing.T) {
	visible := everyByte()[0x21:0x7f]
	for target, want := range map[string]string{
		"/": "/", "//": "//", "/a?b=1": "/a?b=1", "/?": "/?", "/#": "/#", "/" + visible: "/" + visible, "/http://x/a": "/http://x/a",
		"http://x": "/", "https://x": "/", "HTTP://x": "/", "hTTpS://X": "/", "http://x/": "/", "http://x?": "/?", "http://x?a": "/?a", "http://x/?a": "/?a",
		"http://x//a": "//a", "http://x:80/a?b/c": "/a?b/c", "https://u@x/a": "/a", "http://x?a/b?c": "/?a/b?c", "http://#": "/", "http://x#/a": "/a",
		"http://http://a": "//a", "https://" + strings.ReplaceAll(strings.ReplaceAll(visible, "/", ""), "?", "") + "/" + visible: "/" + visible,
	} {
		mustTake(t, "P7.3", most, "GET "+target+" HTTP/1.0\r\n\r\n", api.Request{Method: "GET", Target: want, Close: true})
	}
	for _, target := range []string{
		"", "a", "?a", "*", "x/a", "http", "http:", "http:/", "http://", "https://", "http:///", "http:///a", "http://?", "http://?a", "https:///a", "https://?a",
		"http:/x", "http:x", "https:/x/", "httpss://x/", "htt://x/", "ftp://x/", "ttp://x/", "://x/", "xhttp://x/", "http//x/", "http;//x/",
		"/\x7f", "/\x80", "/\xff", "/\x00", "/\x1f", "/\t", "http://x\x7f", "http://x\x80/", "http://\xff", "http://x/\x7f", "http://x/\x80", "http://x?\x7f",
		"\x7f", "http\x7f://x", "http://x\r/", "/\n", "/\r",
	} {
		mustRefuse(t, "P7.3", little, "GET "+target+" HTTP/1.0\r\n\r\n", 400)
	}
}

func TestFieldLines(t *testing.T) {
	values := everyByte()[0x80:] + "\t" + everyByte()[0x20:0x7f]
	for line, want := range map[string][]api.Pair{
		"a:b":                  pairs("a", "b"),
		"a: b":                 pairs("a", "b"),
		"a:":                   pairs("a", ""),
		"a: \t ":               pairs("a", ""),
		"a:\t b \t c\t ":       pairs("a", "b \t c"),
		"A-B_C: D":             pairs("a-b_c", "D"),
		"ABCXYZ[: x":           nil,
		"ABCXYZ: ABCxyz":       pairs("abcxyz", "ABCxyz"),
		"a:b:c":                pairs("a", "b:c"),
		"a::":                  pairs("a", ":"),
		"!#$%&'*+-.^_`|~09: 1": pairs("!#$%&'*+-.^_`|~09", "1"),
		"a: " + values:         pairs("a", values),
		":":                    nil,
		": b":                  nil,
		"a":                    nil,
		"a b":                  nil,
		" a: b":                nil,
		"\ta: b":               nil,
		"a : b":                nil,
		"a\t: b":               nil,
		"a b: c":               nil,
		"(a): b":               nil,
		"\x80: b":              nil,
		"a: b\x00":             nil,
		"a: \x1f":              nil,
		"a: \x7f":              nil,
		"a: b\rc":              nil,
		"a: b\nc: d":           nil,
		"a: b\r":               nil,
		"a: b\n":               nil,
		"a: \n":                nil,
		"a\r: b":               nil,
		"\na: b":               nil,
		"a: \v":                nil,
		"a: \fb":               nil,
	} {
		for _, s := range []string{line0 + line + "\r\n\r\n", line0 + "first: 1\r\n" + line + "\r\nlast: 2\r\n\r\n"} {
			q := api.Request{Method: "GET", Target: "/", Fields: want, Close: true}
			if strings.Contains(s, "first") {
				q.Fields = slices.Concat(pairs("first", "1"), want, pairs("last", "2"))
			}
			if want == nil {
				mustRefuse(t, "P7.3", most, s, 400)
			} else {
				mustTake(t, "P7.3", most, s, q)
			}
		}
	}
}

func TestFieldsStandAsTheyCame(t *testing.T) {
	s := line1 + "B: 1\r\na: 2\r\nHOST: x\r\nA: 3\r\nb: 1\r\na:\r\n\r\n"
	mustTake(t, "P7.3", little, s, api.Request{Method: "GET", Target: "/", Minor: 1, Fields: pairs("b", "1", "a", "2", "host", "x", "a", "3", "b", "1", "a", "")})
}

func TestEmptyLinesAhead(t *testing.T) {
	q := api.Request{Method: "GET", Target: "/", Close: true}
	mustTake(t, "P7.2", little, line0+"\r\n", q)
	mustTake(t, "P7.2", little, "\r\n"+line0+"\r\n", q)
	mustRefuse(t, "P7.2", little, "\r\n\r\n"+line0+"\r\n", 400)
	mustRefuse(t, "P7.2", little, "\r\n\r\n", 400)
	mustRefuse(t, "P7.2", little, "\r\n\r\n\r\n", 400)
	mustRefuse(t, "P7.2", little, "\n"+line0+"\r\n", 400)
	mustRefuse(t, "P7.2", little, "\r"+line0+"\r\n", 400)
	mustRefuse(t, "P7.2", little, "\r\r\n"+line0+"\r\n", 400)
	mustRefuse(t, "P7.2", little, " \r\n"+line0+"\r\n", 400)
	kept := api.Request{Method: "GET", Target: "/", Minor: 1, Fields: pairs("host", "x")}
	mustPlay(t, "P7.2", little, "\r\n"+sound+"\r\n"+sound+sound+"\r\n"+sound+"\r\n", lot{requests: []api.Request{kept, kept, kept, kept}, left: 2})
	mustPlay(t, "P7.2", little, sound+"\r\n\r\n"+sound, lot{requests: []api.Request{kept}, number: 400})
}

func TestHosts(t *testing.T) {
	for _, value := range []string{"", "x", "a b", "x, y", "\xff", "://"} {
		mustTake(t, "P7.3", little, line1+"hOST: "+value+"\r\n\r\n", api.Request{Method: "GET", Target: "/", Minor: 1, Fields: pairs("host", value)})
		mustTake(t, "P7.3", little, line0+"hOST: "+value+"\r\n\r\n", api.Request{Method: "GET", Target: "/", Fields: pairs("host", value), Close: true})
	}
	mustTake(t, "P7.3", little, line0+"\r\n", api.Request{Method: "GET", Target: "/", Close: true})
	mustRefuse(t, "P7.3", little, line1+"\r\n", 400)
	mustRefuse(t, "P7.3", little, line1+"Hosts: x\r\nHos: t\r\nx-host: x\r\n\r\n", 400)
	mustRefuse(t, "P7.3", little, line1+host+host+"\r\n", 400)
	mustRefuse(t, "P7.3", little, line0+host+"HOST: y\r\n\r\n", 400)
	mustRefuse(t, "P7.3", little, line1+host+"a: b\r\n"+host+host+"\r\n", 400)
}

func TestCodings(t *testing.T) {
	for _, value := range []string{"chunked", "Chunked", "CHUNKED", " \tcHuNkEd\t"} {
		s := line1 + host + "Transfer-Encoding:" + value + "\r\n\r\n0\r\n\r\n"
		mustTake(t, "P7.3", little, s, api.Request{Method: "GET", Target: "/", Minor: 1, Fields: pairs("host", "x", "transfer-encoding", strings.Trim(value, " \t"))})
	}
	for _, value := range []string{"", "gzip", "chunke", "chunkedd", "gzip, chunked", "chunked, chunked", "chunked,", ",chunked", "chunked;q=1", "\"chunked\"", "identity", "chun\u212aed", "chunked\x80"} {
		mustRefuse(t, "P7.3", little, line1+host+"Transfer-Encoding: "+value+"\r\n\r\n", 501)
	}
	const chunked = "Transfer-Encoding: chunked\r\n"
	mustRefuse(t, "P7.3", little, line1+host+chunked+chunked+"\r\n", 400)
	mustRefuse(t, "P7.3", little, line1+host+"Transfer-Encoding: gzip\r\n"+chunked+"\r\n", 400)
	mustRefuse(t, "P7.3", little, line0+chunked+"\r\n0\r\n\r\n", 400)
	mustRefuse(t, "P7.3", little, line0+"Transfer-Encoding: gzip\r\n\r\n", 400)
	for _, length := range []string{"0", "3", "x", "", "99"} {
		mustRefuse(t, "P7.3", little, line1+host+chunked+"Content-Length: "+length+"\r\n\r\n", 400)
		mustRefuse(t, "P7.3", little, line1+"content-length:"+length+"\r\n"+host+"transfer-encoding: gzip\r\n\r\n", 400)
	}
}

func TestLengths(t *testing.T) {
	for value, size := range map[string]int{"0": 0, "00": 0, "1": 1, "9": 9, "10": 10, "010": 10, strings.Repeat("0", 100) + "10": 10, strings.Repeat("0", 100): 0} {
		s := line1 + host + "Content-Length: " + value + "\r\n\r\n"
		body := "0123456789"[:size]
		mustTake(t, "P7.4", little, s+body, api.Request{Method: "GET", Target: "/", Minor: 1, Fields: pairs("host", "x", "content-length", value), Body: body})
		if size > 0 {
			mustWant(t, "P7.4", little, s+body[1:])
		}
	}
	for _, value := range []string{"", "x", "1x", "x1", "+1", "-1", "-0", "1,1", "1, 1", "1 1", "0x1", "1.0", "1_0", "1e1", "\xb2", "/", ":", "\"1\"", "१", "99999999999999999999x"} {
		mustRefuse(t, "P7.3", little, line1+host+"Content-Length: "+value+"\r\n\r\n", 400)
	}
	for _, value := range []string{"11", "011", "100", "65536", "9223372036854775807", "9223372036854775808", "18446744073709551615", "18446744073709551616", "18446744073709551617", "18446744073709551626", "36893488147419103232", strings.Repeat("9", 100), "1" + strings.Repeat("0", 99), strings.Repeat("0", 50) + "11"} {
		mustRefuse(t, "P7.3", little, line1+host+"Content-Length: "+value+"\r\n\r\n", 413)
	}
	mustRefuse(t, "P7.3", little, line1+host+"Content-Length: 1\r\nContent-Length: 1\r\n\r\na", 400)
	mustRefuse(t, "P7.3", little, line0+"Content-Length: 99\r\nb: c\r\ncontent-LENGTH: 1\r\n\r\na", 400)
	mustRefuse(t, "P7.3", limits{200, 0}, line1+host+"Content-Length: 1\r\n\r\n", 413)
	mustTake(t, "P7.4", limits{200, 0}, line1+host+"Content-Length: 0\r\n\r\n", api.Request{Method: "GET", Target: "/", Minor: 1, Fields: pairs("host", "x", "content-length", "0")})
}

// TestNoMethodHasABodyOfItsOwn: whatever the method, the fields alone tell of a body.
func TestNoMethodHasABodyOfItsOwn(t *testing.T) {
	for _, method := range []string{"GET", "HEAD", "POST", "PUT", "DELETE", "CONNECT", "TRACE", "x"} {
		q := api.Request{Method: method, Target: "/", Minor: 1, Fields: pairs("host", "x")}
		mustPlay(t, "P7.4", little, method+" / HTTP/1.1\r\n"+host+"\r\nab", lot{requests: []api.Request{q}, left: 2})
		q.Fields, q.Body = pairs("host", "x", "content-length", "2"), "ab"
		mustTake(t, "P7.4", little, method+" / HTTP/1.1\r\n"+host+"Content-Length: 2\r\n\r\nab", q)
		q.Fields = pairs("host", "x", "transfer-encoding", "chunked")
		mustTake(t, "P7.4", little, method+" / HTTP/1.1\r\n"+host+"Transfer-Encoding: chunked\r\n\r\n2\r\nab\r\n0\r\n\r\n", q)
	}
}

func TestExpects(t *testing.T) {
	for _, value := range []string{"100-continue", "", "x"} {
		mustRefuse(t, "P7.3", little, line1+host+"eXPECT: "+value+"\r\n\r\n", 417)
		mustTake(t, "P7.3", little, line0+"Expect: "+value+"\r\n\r\n", api.Request{Method: "GET", Target: "/", Fields: pairs("expect", value), Close: true})
	}
	mustRefuse(t, "P7.3", little, line1+host+"Expect: a\r\nExpect: b\r\nContent-Length: 3\r\n\r\n", 417)
	mustRefuse(t, "P7.3", little, line1+host+"Expect: a\r\nTransfer-Encoding: chunked\r\n\r\n", 417)
}

// fault is one line that brings a refusal, by its place in the table of P7.3.
type fault struct {
	lines  string
	number int
}

// TestTheFirstRefusalIsTheAnswer lays every two faults of the fields into one head, in both orders.
func TestTheFirstRefusalIsTheAnswer(t *testing.T) {
	faults := []fault{
		{"a b: c\r\n", 400},
		{strings.Repeat("a: b\r\n", 64), 431},
		{"Host: y\r\n", 400},
		{"Transfer-Encoding: a\r\nTransfer-Encoding: b\r\n", 400},
		{"Transfer-Encoding: gzip\r\n", 501},
		{"Content-Length: x\r\n", 400},
		{"Content-Length: 99\r\n", 413},
		{"Expect: x\r\n", 417},
	}
	l := limits{65536, 10}
	for i, a := range faults {
		mustRefuse(t, "P7.3", l, line1+host+a.lines+"\r\n", a.number)
		mustRefuse(t, "P7.3", l, "GET / HTTP/9.9\r\n"+host+a.lines+"\r\n", 505)
		mustRefuse(t, "P7.3", l, "GET HTTP/9.9\r\n"+host+a.lines+"\r\n", 400)
		for _, b := range faults[i+1:] {
			want := a.number
			if a.number == 501 && strings.HasPrefix(b.lines, "Content-Length") {
				want = 400 // the two fields together are a fault that stands higher
			}
			mustRefuse(t, "P7.3", l, line1+host+a.lines+b.lines+"\r\n", want)
			mustRefuse(t, "P7.3", l, line1+host+b.lines+a.lines+"\r\n", want)
		}
	}
	mustRefuse(t, "P7.3", l, line1+strings.Repeat("a: b\r\n", 65)+"\r\n", 431)
	mustRefuse(t, "P7.3", l, line1+"Transfer-Encoding: gzip\r\n\r\n", 400)
	mustRefuse(t, "P7.3", l, line1+"Content-Length: 99\r\n\r\n", 400)
	mustRefuse(t, "P7.3", l, line1+"Expect: x\r\n\r\n", 400)
}

// TestARefusalDoesNotWait: the head alone brings it, before a byte of the body.
func TestARefusalDoesNotWait(t *testing.T) {
	s := line1 + host + "Content-Length: 5\r\nExpect: x\r\n\r\n"
	mustWant(t, "P7.2", little, s[:len(s)-1])
	mustRefuse(t, "P7.2", little, s, 417)
	mustWant(t, "P7.2", little, "\x00 no head is looked at ahead of its end\r\n\r")
	mustRefuse(t, "P7.2", little, "\x00 no head is looked at ahead of its end\r\n\r\n", 400)
}

func TestClose(t *testing.T) {
	for value, want := range map[string][2]bool{
		"":                        {true, false},
		"close":                   {true, true},
		"Close":                   {true, true},
		"CLOSE":                   {true, true},
		"keep-alive":              {false, false},
		"Keep-Alive":              {false, false},
		"keep-alive, close":       {true, true},
		"close,keep-alive":        {true, true},
		"a, b":                    {true, false},
		"a,\tclose\t,":            {true, true},
		"a , \t keep-alive \t, b": {false, false},
		"a close":                 {true, false},
		"closed":                  {true, false},
		"clos":                    {true, false},
		"keep-alives":             {true, false},
		"keep alive":              {true, false},
		",,,close,,":              {true, true},
		",":                       {true, false},
		"close;a":                 {true, false},
		"\"close\"":               {true, false},
		"\u212aeep-alive":         {true, false},
		"KEEP-ALIVE,x":            {false, false},
		"x,clo\u017fe":            {true, false},
		"keep-alive\x80":          {true, false},
		strings.Repeat(",", 100):  {true, false},
	} {
		for minor, line := range []string{line0, line1} {
			q := api.Request{Method: "GET", Target: "/", Minor: minor, Fields: pairs("host", "x", "connection", value), Close: want[minor]}
			mustTake(t, "P7.6", little, line+host+"Connection: "+value+"\r\n\r\n", q)
		}
	}
	for lines, want := range map[string][2]bool{
		"":                                   {true, false},
		"connection: a\r\nCONNECTION: close": {true, true},
		"connection: close\r\nCONNECTION: a": {true, true},
		"connection: a\r\nCONNECTION: keep-alive":             {false, false},
		"connection: keep-alive\r\nCONNECTION: a":             {false, false},
		"connection: keep-alive\r\nCONNECTION: close":         {true, true},
		"connection: close\r\nconnection: keep-alive":         {true, true},
		"connection: clo\r\nconnection: se":                   {true, false},
		"connections: close\r\nclose: connection":             {true, false},
		"keep-alive: connection\r\nproxy-connection: close":   {true, false},
		"connection:\r\nconnection:\r\nconnection: , close ,": {true, true},
	} {
		for minor, line := range []string{line0, line1} {
			s := line + host + lines + "\r\n\r\n"
			s = strings.Replace(s, "\r\n\r\n\r\n", "\r\n\r\n", 1)
			got := little.play(t, s)
			if len(got.requests) != 1 || got.requests[0].Close != want[minor] || !sameLot(got, little.expected(s)) {
				t.Errorf("P7.6: of %q comes %+v, want Close %v", s, got, want[minor])
			}
		}
	}
}

// TestChangedHeads holds the reading of heads against the expressions.
func TestChangedHeads(t *testing.T) {
	for _, s := range []string{
		"GET /a HTTP/1.1\r\nHost: x\r\nA: b\r\n\r\n",
		"\r\nP hTtps://u?b HTTP/1.0\r\nContent-Length: 02\r\n\r\nab",
		"GET / HTTP/1.1\r\nHost:\r\nTransfer-Encoding: chunked\r\n\r\n0\r\n\r\n",
		"GET / HTTP/1.0\r\nConnection: a,Keep-Alive\r\n\r\n",
		"GET / HTTP/1.1\r\nConnection: close ,b\r\nhost:y\r\n\r\n",
		"GET / HTTP/1.1\r\nExpecs:\r\nHost: x\r\nContent-Length: 3\r\n\r\nabc",
	} {
		changedAt(s, func(s string) {
			mustPlayAsExpected(t, "P7.3", little, s)
		})
	}
}

// TestShortHeads plays all heads of a few parts.
func TestShortHeads(t *testing.T) {
	parts := []string{"GET / HTTP/1.1\r\n", "x http://y HTTP/1.0\r\n", "\r\n", "Host:\r\n", "content-length: 1\r\n", "transfer-encoding: chunked\r\n", "expect: x\r\n", "connection: close\r\n", "1", "0\r\n"}
	grow("", parts, 5, func(s string) {
		mustPlayAsExpected(t, "P7.3", little, s)
	})
}
