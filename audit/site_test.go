package audit_test

import (
	"strconv"
	"strings"
	"testing"

	"usher/api"
	"usher/audit"
	"usher/world"
)

// config is that of DOC.md's whole run.
const config = `code-life 60
token-life 3600
session-life 86400
refresh-life 100000
disk 100000
head 8192
body 4096
rounds 1
client app public
redirect https://a.example/cb
scopes read write
client web secret 73616c74 120fb6cffcf8b32c43e7225256c4f837a86548c92ccc35480805987cb70be17b
redirect https://w.example/cb
scopes read
user ann 73616c74 120fb6cffcf8b32c43e7225256c4f837a86548c92ccc35480805987cb70be17b
`

// wholeRun is what lies on the disk behind that run.
func wholeRun() []string {
	return []string{
		"transaction 1",
		"session " + zeroID + " ann 0",
		"transaction 2",
		"consent ann app 5 read",
		"code " + id(1) + " ann app https://a.example/cb E9Melhoa2OwvFrEMTJguCHaoeK1t8URWbuGJSstw-cM 5 read",
		"transaction 2",
		"redeemed " + id(1),
		"token " + id(2) + " ann app " + id(1) + " 15 read",
		"transaction 1",
		"revoked " + id(2),
	}
}

// asked is a request of the client web.
func asked(path, body string) api.Step {
	return api.Step{Kind: api.StepBytes, Data: "POST " + path + " HTTP/1.1\r\nHost: usher.example\r\nAuthorization: Basic d2ViOnBhc3N3b3Jk\r\nContent-Type: application/x-www-form-urlencoded\r\nContent-Length: " + strconv.Itoa(len(body)) + "\r\n\r\n" + body}
}

// TestTheWholeRun: the frames of DOC.md's run come out of the text of its records, and a server goes on with them.
func TestTheWholeRun(t *testing.T) {
	lines := wholeRun()
	data, err := audit.Load(lines)
	if err != nil || len(data) != 4*8+52+144+152+47 {
		t.Fatalf("P25.7: Load of the whole run = %d bytes, %v", len(data), err)
	}
	if want := "\x00\x00\x00\x34\x6c\x4f\x0c\x1c\x01\x32\x01\x2b\x41\x41"; !strings.HasPrefix(string(data), want) {
		t.Errorf("P25.7: Load of the whole run = %.20x", data)
	}
	mustReport(t, data, 4, len(data), api.FaultNone)
	for _, c := range []struct {
		lines int
		want  string
	}{{8, `"active":true,"scope":"read","client_id":"app","username":"ann"`}, {10, `{"active":false}`}, {5, `{"active":false}`}} {
		data, err := audit.Load(lines[:c.lines])
		if err != nil {
			t.Fatalf("P25.7: Load of the first %d lines: %v", c.lines, err)
		}
		trace, err := world.Resume(config, string(data), 15, []api.Step{asked("/introspect", "token="+id(2))})
		if err != nil || len(trace.Outs) != 1 || !strings.Contains(trace.Outs[0].Text, c.want) {
			t.Errorf("P25.7: behind the first %d lines the server says %v, %v, want %s", c.lines, trace.Outs, err, c.want)
		}
	}
}

// TestAServersLog: what a server writes behind a log that was loaded is dumped behind its lines.
func TestAServersLog(t *testing.T) {
	lines := wholeRun()[:8]
	data, _ := audit.Load(lines)
	draw := strings.Repeat("\x09", 32)
	body := "user=ann&pass=password"
	trace, err := world.Resume(config, string(data), 20, []api.Step{
		{Kind: api.StepDraw, Data: draw},
		asked("/login", body),
		asked("/revoke", "token="+id(2)+"&client_id=web"),
	})
	if err != nil {
		t.Fatal(err)
	}
	got, err := audit.Dump([]byte(trace.Disk))
	want := append(lines, "transaction 1", "session "+id(9)+" ann 20")
	if err != nil || strings.Join(got, "\n") != strings.Join(want, "\n") {
		t.Errorf("P25.6: Dump = %q, %v, want %q", got, err, want)
	}
	if !isSameState(modelLook([]byte(trace.Disk)).row.state(), trace.State) {
		t.Errorf("P25.3: the server keeps %v", trace.State)
	}
}
