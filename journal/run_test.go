package journal_test

import (
	"bufio"
	"encoding/base64"
	"io"
	"net/http"
	"net/url"
	"slices"
	"strconv"
	"strings"
	"testing"

	"usher/api"
	"usher/journal"
	"usher/world"
)

// config has the head 400, the body 60, and room for some hundred frames.
const config = `code-life 60
token-life 3600
session-life 86400
refresh-life 100000
disk 100000
head 400
body 60
rounds 1
client app public
redirect https://a.example/cb
scopes read write
client web secret 73616c74 120fb6cffcf8b32c43e7225256c4f837a86548c92ccc35480805987cb70be17b
redirect https://w.example/cb
scopes read
user ann 73616c74 120fb6cffcf8b32c43e7225256c4f837a86548c92ccc35480805987cb70be17b
`

// Steps.

func bytesOn(conn int, data string) api.Step {
	return api.Step{Kind: api.StepBytes, Conn: conn, Data: data}
}

func tick(n int) api.Step { return api.Step{Kind: api.StepTick, N: n} }

// draw is one that no other draw of another number is like.
func draw(n int) api.Step {
	text := strconv.Itoa(n)
	return api.Step{Kind: api.StepDraw, Data: strings.Repeat("d", 32-len(text)) + text}
}

func hangUp(conn int) api.Step { return api.Step{Kind: api.StepClose, Conn: conn} }

func crash() api.Step { return api.Step{Kind: api.StepCrash} }

func arm(after int) api.Step { return api.Step{Kind: api.StepArm, N: after} }

// Requests.

// request is a request of HTTP/1.1; fields are whole lines.
func request(method, target, body string, fields ...string) string {
	lines := append([]string{method + " " + target + " HTTP/1.1", "Host: x"}, fields...)
	if body != "" {
		lines = append(lines, "Content-Length: "+strconv.Itoa(len(body)))
	}
	return strings.Join(lines, "\r\n") + "\r\n\r\n" + body
}

func get(target string, fields ...string) string { return request("GET", target, "", fields...) }

// login writes onto the disk, if a draw waits.
func login(next string, fields ...string) string {
	return request("POST", "/login", "user=ann&pass=password&next="+url.QueryEscape(next), append(fields, "Content-Type: application/x-www-form-urlencoded")...)
}

func basic(name, pass string) string {
	return "Authorization: Basic " + base64.StdEncoding.EncodeToString([]byte(url.QueryEscape(name)+":"+url.QueryEscape(pass)))
}

// nonsense is refused with 400.
const nonsense = "nonsense\r\n\r\n"

// Entries.

// got is an entry for GET with that target, but for the bytes.
func got(conn, at int, target string, status int) api.Entry {
	return api.Entry{Conn: conn, At: at, Method: "GET", Target: target, Minor: 1, Status: status}
}

// logged is the entry of a login that lets in.
func logged(conn, at int) api.Entry {
	return api.Entry{Conn: conn, At: at, Method: "POST", Target: "/login", Minor: 1, Status: 303}
}

func refused(conn, at, status int) api.Entry {
	return api.Entry{Conn: conn, At: at, Status: status}
}

// readAnswer reads an answer by the library: its status and its body.
func readAnswer(t *testing.T, text, method string) (int, string) {
	t.Helper()
	r, err := http.ReadResponse(bufio.NewReader(strings.NewReader(text)), &http.Request{Method: method})
	if err != nil {
		t.Fatalf("what went out is no answer: %v: %q", err, text)
	}
	body, err := io.ReadAll(r.Body)
	if err != nil {
		t.Fatalf("what went out is no whole answer: %v: %q", err, text)
	}
	return r.StatusCode, string(body)
}

// mustLog holds the log of a run against what is wanted. The bytes of want are not looked at: they are held, like the statuses, against the answers.
func mustLog(t *testing.T, epoch int, script []api.Step, want ...api.Entry) {
	t.Helper()
	mustLogOver(t, config, epoch, script, want...)
}

func mustLogOver(t *testing.T, config string, epoch int, script []api.Step, want ...api.Entry) {
	t.Helper()
	before := slices.Clone(script)
	list, err := journal.Entries(epoch, config, script)
	if err != nil || len(list) != len(want) {
		t.Fatalf("P21.8: %d entries, %v, want %d: %+v", len(list), err, len(want), list)
	}
	if !slices.Equal(script, before) {
		t.Error("P21.10: the steps that were handed in have changed")
	}
	trace, err := world.Run(config, script)
	if err != nil {
		t.Fatal(err)
	}
	if len(trace.Outs) != len(list) {
		t.Fatalf("P21.8: %d entries for %d answers", len(list), len(trace.Outs))
	}
	for i, out := range trace.Outs {
		status, body := readAnswer(t, out.Text, list[i].Method)
		want[i].Bytes = len(body)
		if list[i] != want[i] || status != want[i].Status || out.Conn != want[i].Conn {
			t.Errorf("P21.8: entry %d is %+v, want %+v for %q", i, list[i], want[i], out.Text)
		}
	}
	mustBeKept(t, list)
}

// mustBeKept holds P21.9: the entries may be, and their log is read back.
func mustBeKept(t *testing.T, list []api.Entry) {
	t.Helper()
	log, err := journal.Lines(list)
	if err != nil || strings.Count(log, "\n") != len(list) {
		t.Errorf("P21.9: %d entries are the log %q, %v", len(list), log, err)
	}
	for line := range strings.Lines(log) {
		mustBeTame(t, strings.TrimSuffix(line, "\n"))
	}
	if back, err := journal.ReadLines(log); !slices.Equal(back, list) || err != nil {
		t.Errorf("P21.9: %+v is read back as %+v, %v", list, back, err)
	}
}
