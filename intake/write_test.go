package intake_test

import (
	"math"
	"math/rand"
	"slices"
	"strconv"
	"strings"
	"testing"

	"usher/api"
)

// plain is a request that may be written, in both ways if minor is 1.
func plain(minor int) api.Request {
	return api.Request{Method: "GET", Target: "/a?b", Minor: minor, Fields: pairs("host", "x", "a", "B c"), Close: minor == 0}
}

func TestWrite(t *testing.T) {
	mustWrite(t, plain(1), "GET /a?b HTTP/1.1\r\nhost: x\r\na: B c\r\n\r\n")
	mustWrite(t, plain(0), "GET /a?b HTTP/1.0\r\nhost: x\r\na: B c\r\n\r\n")
	mustWrite(t, api.Request{Method: "x", Target: "/", Close: true}, "x / HTTP/1.0\r\n\r\n")
	mustWrite(t, api.Request{Method: "x", Target: "/", Minor: 1, Fields: pairs("host", ""), Close: false}, "x / HTTP/1.1\r\nhost: \r\n\r\n")
	mustWrite(t, api.Request{Method: "x", Target: "//", Fields: pairs("connection", "keep-alive", "expect", "y")}, "x // HTTP/1.0\r\nconnection: keep-alive\r\nexpect: y\r\n\r\n")
	mustWrite(t, api.Request{Method: "x", Target: "/", Minor: 1, Fields: pairs("connection", "a,close", "host", "x", "a", "", "a", "\xff\t!"), Close: true}, "x / HTTP/1.1\r\nconnection: a,close\r\nhost: x\r\na: \r\na: \xff\t!\r\n\r\n")
	for _, body := range []string{"", "a", "\r\n\r\n", sound, everyByte(), strings.Repeat("b", 65536)} {
		q := plain(1)
		length := strconv.Itoa(len(body))
		q.Fields = append(q.Fields, api.Pair{Name: "content-length", Value: "0" + length})
		q.Body = body
		mustWrite(t, q, "GET /a?b HTTP/1.1\r\nhost: x\r\na: B c\r\ncontent-length: 0"+length+"\r\n\r\n"+body)
	}
	// With this field the Body would have to be the text of its own chunks, which is always longer.
	q := plain(1)
	q.Fields = append(q.Fields, api.Pair{Name: "transfer-encoding", Value: "chunked"})
	mustNotWrite(t, q)
	q.Body = "0\r\n\r\n"
	mustNotWrite(t, q)
}

// unlike is the requests that come of one that may be written by one change that may not be.
func unlike(q api.Request) []api.Request {
	var list []api.Request
	with := func(change func(*api.Request)) {
		r := q
		r.Fields = slices.Clone(q.Fields)
		change(&r)
		list = append(list, r)
	}
	for _, minor := range []int{-1, 2, 10, 11, 1 - q.Minor, math.MaxInt, math.MinInt} {
		with(func(r *api.Request) { r.Minor = minor })
	}
	for _, method := range []string{"", "G T", "GET ", " GET", "GET /", "\r\nGET", "G\r\nT", "G\x80", "GET / HTTP/1.1\r\nhost: x\r\n\r\nGET"} {
		with(func(r *api.Request) { r.Method = method })
	}
	for _, target := range []string{"", "a", "?a", "*", "http://x", "http://x/", "https://x/a", "/ ", "/ a", "/a b", "/\x7f", "/\x80", "/\r\n", "/ HTTP/1.1\r\nhost: x\r\n\r\n", "/ HTTP/1.0"} {
		with(func(r *api.Request) { r.Target = target })
	}
	for _, name := range []string{"", "A", "aB", "a b", " a", "a ", "a:", ":", "a:b", "a\r\n", "\xff", "content-length", "transfer-encoding", "host", "connection\n"} {
		with(func(r *api.Request) { r.Fields[1].Name = name })
	}
	for _, value := range []string{" ", "\t", " a", "a ", "a\t", "\r\n", "a\r\nb: c", "a\r", "\na", "\x00", "\x7f", "a\r\n\r\n", "\r\n\r\nGET / HTTP/1.1"} {
		with(func(r *api.Request) { r.Fields[1].Value = value })
		with(func(r *api.Request) { r.Fields[0].Value = value })
	}
	for _, fields := range [][]api.Pair{pairs("host", "x", "host", "x"), pairs("host", "x", "content-length", "1x"), pairs("host", "x", "content-length", "65537"), pairs("host", "x", "transfer-encoding", "gzip"), pairs("host", "x", "transfer-encoding", "chunked", "transfer-encoding", "chunked"), make([]api.Pair, 3)} {
		with(func(r *api.Request) { r.Fields = fields })
	}
	with(func(r *api.Request) { r.Close = !r.Close })
	with(func(r *api.Request) {
		r.Fields[1] = api.Pair{Name: "connection", Value: []string{"keep-alive", "close"}[r.Minor]}
	})
	return list
}

func TestWhatMayNotBeWritten(t *testing.T) {
	for minor := range 2 {
		for _, q := range unlike(plain(minor)) {
			mustNotWrite(t, q)
			mustNotChunk(t, q, nil)
		}
		for _, body := range []string{"a", "\r\n", sound, strings.Repeat("a", 65537)} {
			q := plain(minor)
			q.Body = body
			mustNotWrite(t, q)
			for _, length := range []string{"0", strconv.Itoa(len(body) - 1), strconv.Itoa(len(body) + 1), "65537", ""} {
				q.Fields = append(plain(minor).Fields, api.Pair{Name: "content-length", Value: length})
				mustNotWrite(t, q)
			}
		}
	}
	for _, q := range []api.Request{{}, {Method: "GET", Target: "/", Minor: 1}, {Method: "GET", Target: "/"}, {Method: "GET", Target: "/", Minor: 1, Fields: pairs("host", "x", "expect", "x")}} {
		mustNotWrite(t, q)
		mustNotChunk(t, q, nil)
	}
}

func TestWriteOfTheGreatestHead(t *testing.T) {
	const rest = len("GET / HTTP/1.1\r\nhost: \r\n\r\n")
	q := api.Request{Method: "GET", Target: "/", Minor: 1, Fields: pairs("host", strings.Repeat("x", 65536-rest))}
	mustWrite(t, q, "GET / HTTP/1.1\r\nhost: "+q.Fields[0].Value+"\r\n\r\n")
	q.Fields[0].Value += "x"
	mustNotWrite(t, q)
	q.Fields = pairs("host", "x")
	for range 63 {
		q.Fields = append(q.Fields, api.Pair{Name: "a"})
	}
	mustWrite(t, q, "GET / HTTP/1.1\r\nhost: x\r\n"+strings.Repeat("a: \r\n", 63)+"\r\n")
	mustNotChunk(t, q, nil)
	q.Fields = append(q.Fields, api.Pair{Name: "a"})
	mustNotWrite(t, q)
	q.Fields = q.Fields[:63]
	mustChunk(t, q, nil, "GET / HTTP/1.1\r\nhost: x\r\n"+strings.Repeat("a: \r\n", 62)+"transfer-encoding: chunked\r\n\r\n0\r\n\r\n")
}

func TestChunked(t *testing.T) {
	const head = "GET /a?b HTTP/1.1\r\nhost: x\r\na: B c\r\ntransfer-encoding: chunked\r\n\r\n"
	q := plain(1)
	for _, sizes := range [][]int{nil, {}, {0}, {1}, {-1, 5, math.MaxInt, math.MinInt}} {
		mustChunk(t, q, sizes, head+"0\r\n\r\n")
	}
	q.Body = "abcd"
	for _, c := range []struct {
		sizes []int
		want  string
	}{
		{nil, "4\r\nabcd\r\n"},
		{[]int{0, 3}, "3\r\nabc\r\n1\r\nd\r\n"},
		{[]int{0, -1, math.MinInt}, "4\r\nabcd\r\n"},
		{[]int{4}, "4\r\nabcd\r\n"},
		{[]int{5}, "4\r\nabcd\r\n"},
		{[]int{math.MaxInt}, "4\r\nabcd\r\n"},
		{[]int{1, 1, 1, 1}, "1\r\na\r\n1\r\nb\r\n1\r\nc\r\n1\r\nd\r\n"},
		{[]int{1, 1, 1}, "1\r\na\r\n1\r\nb\r\n1\r\nc\r\n1\r\nd\r\n"},
		{[]int{1, 1, 1, 1, 1, 7}, "1\r\na\r\n1\r\nb\r\n1\r\nc\r\n1\r\nd\r\n"},
		{[]int{1, 0, 100, -5, 2}, "1\r\na\r\n3\r\nbcd\r\n"},
		{[]int{2, 2, 2}, "2\r\nab\r\n2\r\ncd\r\n"},
	} {
		mustChunk(t, q, c.sizes, head+c.want+"0\r\n\r\n")
	}
	q.Body = strings.Repeat("z", 65536)
	mustChunk(t, q, nil, head+"10000\r\n"+q.Body+"\r\n0\r\n\r\n")
	mustChunk(t, q, []int{10, 15, 16, 255, 256, 4095}, head+"a\r\n"+q.Body[:10]+"\r\nf\r\n"+q.Body[:15]+"\r\n10\r\n"+q.Body[:16]+"\r\nff\r\n"+q.Body[:255]+"\r\n100\r\n"+q.Body[:256]+"\r\nfff\r\n"+q.Body[:4095]+"\r\nedd9\r\n"+q.Body[:60889]+"\r\n0\r\n\r\n")
	q.Body += "z"
	mustNotChunk(t, q, nil)
	mustNotChunk(t, q, []int{1, 2, 3})
}

// TestChunkedHasRoomForItsLines: many little chunks have more lines than a head may have bytes.
func TestChunkedHasRoomForItsLines(t *testing.T) {
	q := plain(1)
	ones := make([]int, 30000)
	for i := range ones {
		ones[i] = 1
	}
	q.Body = strings.Repeat("z", (65536-5)/3)
	head := "GET /a?b HTTP/1.1\r\nhost: x\r\na: B c\r\ntransfer-encoding: chunked\r\n\r\n"
	mustChunk(t, q, ones, head+strings.Repeat("1\r\nz\r\n", len(q.Body))+"0\r\n\r\n")
	q.Body += "z"
	mustNotChunk(t, q, ones)
}

func TestWhatMayNotGoInChunks(t *testing.T) {
	mustNotChunk(t, plain(0), nil)
	for _, f := range []api.Pair{{Name: "content-length", Value: "0"}, {Name: "content-length", Value: "1"}, {Name: "transfer-encoding", Value: "chunked"}, {Name: "transfer-encoding", Value: "gzip"}} {
		q := plain(1)
		q.Body = "a"
		q.Fields = append(q.Fields, f)
		mustNotChunk(t, q, nil)
	}
	for _, change := range []func(*api.Request){func(q *api.Request) { q.Close = true }, func(q *api.Request) { q.Fields = nil }, func(q *api.Request) { q.Minor = 2 }} {
		q := plain(1)
		change(&q)
		mustNotChunk(t, q, []int{1})
	}
}

// written is a request of any kind that may be written, with its text, and as an Intake reads it.
func written(t *testing.T, random *rand.Rand) (string, api.Request) {
	t.Helper()
	bodies := []string{"", "a", sound, "\r\n\r\n", "0\r\n\r\n" + sound, "5\r\nabcde\r\n", noise(random, everyByte(), random.Intn(300))}
	q := api.Request{Method: noise(random, "GETpost!~", 1+random.Intn(6)), Target: "/" + noise(random, everyByte()[0x21:0x7f], random.Intn(9)), Minor: 1, Fields: pairs("host", noise(random, "abc", random.Intn(3))), Body: bodies[random.Intn(len(bodies))]}
	if random.Intn(12) == 0 {
		q.Fields = append(q.Fields, api.Pair{Name: "connection", Value: "a, close"})
		q.Close = true
	}
	if random.Intn(2) == 0 {
		sizes := make([]int, random.Intn(5))
		for i := range sizes {
			sizes[i] = random.Intn(40) - 3
		}
		text := strings.Builder{}
		text.WriteString(q.Method + " " + q.Target + " HTTP/1.1\r\n")
		for _, f := range q.Fields {
			text.WriteString(f.Name + ": " + f.Value + "\r\n")
		}
		text.WriteString("transfer-encoding: chunked\r\n\r\n")
		left := q.Body
		for _, size := range append(slices.Clone(sizes), len(q.Body)) {
			if size = min(size, len(left)); size > 0 {
				text.WriteString(strconv.FormatInt(int64(size), 16) + "\r\n" + left[:size] + "\r\n")
				left = left[size:]
			}
		}
		text.WriteString("0\r\n\r\n")
		mustChunk(t, q, sizes, text.String())
		q.Fields = append(q.Fields, api.Pair{Name: "transfer-encoding", Value: "chunked"})
		return text.String(), q
	}
	q.Fields = append(q.Fields, api.Pair{Name: "content-length", Value: strconv.Itoa(len(q.Body))})
	if random.Intn(4) == 0 && !q.Close {
		q.Minor = 0
		q.Fields = append(q.Fields, api.Pair{Name: "connection", Value: "keep-alive"})
	}
	text := q.Method + " " + q.Target + " HTTP/1." + strconv.Itoa(q.Minor) + "\r\n"
	for _, f := range q.Fields {
		text += f.Name + ": " + f.Value + "\r\n"
	}
	text += "\r\n" + q.Body
	mustWrite(t, q, text)
	return text, q
}

// TestRequestsOneBehindTheOther: each comes back once, in order, up to the first with Close.
func TestRequestsOneBehindTheOther(t *testing.T) {
	random := rand.New(rand.NewSource(7))
	for range 500 {
		var all strings.Builder
		var want lot
		closed := false
		for range 1 + random.Intn(10) {
			text, q := written(t, random)
			all.WriteString(text)
			if !closed {
				want.requests = append(want.requests, q)
			}
			closed = closed || q.Close
		}
		s := all.String()
		for _, pieces := range [][]string{{s}, bytewise(s), anyPieces(random, s), anyPieces(random, s)} {
			if got := most.play(t, pieces...); !sameLot(got, want) {
				t.Errorf("P7.9: of %.600q comes %+v, want %+v", s, got, want)
			}
		}
	}
}
