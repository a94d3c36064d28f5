package reply_test

import (
	"math/rand"
	"strings"
	"testing"

	"usher/api"
	"usher/reply"
)

// behind are texts that may stand behind an answer.
func behind() []string {
	return []string{"", "x", "\r", "\n", "\r\n", "\r\n\r\n", "HTTP/1.1 200 OK\r\n", first + nothing, "HTTP", everyByte()}
}

// answers are some whose fields and bodies look like answers, and parts of one.
func answers() []api.Reply {
	whole := first + "a: b\r\nContent-Length: 3\r\nConnection: close\r\n\r\nabc"
	return []api.Reply{
		ok(nil, ""),
		ok(nil, whole),
		ok(nil, whole+whole),
		ok(pairs("Location", "/login", "Set-Cookie", "sid=; Path=/", "Set-Cookie", ""), "\r\n\r\n"),
		{Status: 505, Fields: pairs("X", "HTTP/1.1 200 OK", "Y", "Content-Length: 0", "Z", "Connection: close"), Body: "Connection: close\r\n\r\n", Close: true},
		{Status: 404, Fields: pairs("Http", "", "HTTP", "1.1 200 OK", "x", ":"), Body: nothing},
		{Status: 431, Fields: numbered(64), Body: everyByte(), Close: true},
		{Status: 417, Body: "\n" + first, Close: true},
		{Status: 500, Fields: pairs("a", "b"), Body: strings.Repeat(whole, 30)},
	}
}

func TestWrittenIsReadBack(t *testing.T) {
	for _, r := range answers() {
		text := written(t, r)
		for _, more := range behind() {
			mustRead(t, "P8.4", text+more, r, len(text))
		}
		for end := range len(text) {
			mustNotRead(t, "P8.4", text[:end], api.ErrShort)
		}
	}
}

func TestStatusesAreReadBack(t *testing.T) {
	for status := range phrases {
		for _, closes := range []bool{false, true} {
			r := api.Reply{Status: status, Fields: pairs("a", ""), Body: "body", Close: closes}
			text := written(t, r)
			mustRead(t, "P8.4", text, r, len(text))
		}
	}
}

// TestTheLongestIsReadBack cuts only at some places: there are a million.
func TestTheLongestIsReadBack(t *testing.T) {
	r := api.Reply{Status: 200, Fields: numbered(64), Body: strings.Repeat("\r\n\r\n", 1<<18)}
	text := written(t, r)
	mustRead(t, "P8.4", text, r, len(text))
	mustRead(t, "P8.4", text+"\r\n\r\n", r, len(text))
	for _, end := range []int{1, 1000, len(text) - 1<<20 - 1, len(text) - 1<<20, len(text) - 1<<20 + 1, len(text) - 1000, len(text) - 1} {
		mustNotRead(t, "P8.4", text[:end], api.ErrShort)
	}
}

// mustReadAll reads answers one by one until nothing is left.
func mustReadAll(t *testing.T, text string, want []api.Reply) {
	t.Helper()
	for i, r := range want {
		got, n, err := reply.Read(text)
		if !same(got, r) || n < 1 || n > len(text) || err != nil {
			t.Fatalf("P8.4: answer %d of %d is %s, %d, %v, want %s", i, len(want), short(got), n, err, short(r))
		}
		text = text[n:]
	}
	if text != "" {
		t.Errorf("P8.4: behind %d answers are left %.300q", len(want), text)
	}
}

func TestAnswersOneBehindTheOther(t *testing.T) {
	all := answers()
	for from := range all {
		list := append(all[from:len(all):len(all)], all[:from]...)
		var b strings.Builder
		for _, r := range list {
			b.WriteString(written(t, r))
		}
		mustReadAll(t, b.String(), list)
	}
	inner := ok(nil, "")
	for range 40 {
		inner = api.Reply{Status: 404, Fields: pairs("a", "b"), Body: written(t, inner), Close: !inner.Close}
	}
	mustReadAll(t, written(t, inner)+written(t, inner), []api.Reply{inner, inner})
}

// drawn is an answer that Render may take or not, out of parts at which the rules turn.
func drawn(random *rand.Rand) api.Reply {
	statuses := []int{200, 302, 303, 400, 505, 204}
	texts := []string{"a", "Location", "Connection", "content-length", "", "b c", "HTTP/1.1 200 OK", ": ", "é", "Content-Length: 0", " ", "\r\n", "x\n"}
	r := api.Reply{Status: statuses[random.Intn(len(statuses))], Close: random.Intn(2) == 0}
	for range random.Intn(4) {
		name := []string{"a", "b", "C-d", texts[random.Intn(len(texts))]}[random.Intn(4)]
		value := []string{"v", "", noise(random, "v: ", 3), texts[random.Intn(len(texts))]}[random.Intn(4)]
		r.Fields = append(r.Fields, api.Pair{Name: name, Value: value})
	}
	for range random.Intn(5) {
		r.Body += []string{first, nothing, "\r\n", noise(random, everyByte(), 5), texts[random.Intn(len(texts))]}[random.Intn(5)]
	}
	return r
}

func TestDrawnAnswers(t *testing.T) {
	random := rand.New(rand.NewSource(18))
	var list []api.Reply
	var b strings.Builder
	for range 20000 {
		r := drawn(random)
		mustRenderAsExpected(t, r)
		text, err := reply.Render(r, false)
		if err != nil {
			continue
		}
		list = append(list, r)
		b.WriteString(text)
		mustRead(t, "P8.4", text+noise(random, everyByte(), random.Intn(9)), r, len(text))
		mustNotRead(t, "P8.4", text[:random.Intn(len(text))], api.ErrShort)
	}
	if len(list) < 5000 {
		t.Errorf("only %d answers of 20000 were taken", len(list))
	}
	mustReadAll(t, b.String(), list)
}
