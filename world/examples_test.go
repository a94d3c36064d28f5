package world_test

import (
	"strings"
	"testing"

	"usher/api"
	"usher/registry"
	"usher/world"
)

// exampleConfig is the configuration of the chapter's examples.
const exampleConfig = `code-life 60
token-life 3600
session-life 86400
refresh-life 100000
disk 100000
head 8192
body 4096
rounds 1
client app public
redirect https://a.example/cb
scopes read write
user ann 73616c74 120fb6cffcf8b32c43e7225256c4f837a86548c92ccc35480805987cb70be17b
`

const (
	home         = "GET / HTTP/1.1\r\nHost: x\r\n\r\n"
	exampleLogin = "POST /login HTTP/1.1\r\nHost: x\r\nContent-Type: application/x-www-form-urlencoded\r\nContent-Length: 22\r\n\r\nuser=ann&pass=password"
)

// homeText is what goes out for home.
const homeText = "HTTP/1.1 200 OK\r\nContent-Type: text/html; charset=utf-8\r\nCache-Control: no-store\r\nX-Frame-Options: DENY\r\nReferrer-Policy: no-referrer\r\nContent-Length: 429\r\nConnection: keep-alive\r\n\r\n" + `<!DOCTYPE html>
<html lang="en">
<head>
<meta charset="utf-8">
<title>Usher</title>
</head>
<body>
<h1>Usher</h1>
<p>You are not logged in.</p>
<form method="post" action="/login">
<input type="hidden" name="next" value="/">
<p><label>Name <input type="text" name="user" value=""></label></p>
<p><label>Password <input type="password" name="pass"></label></p>
<p><button type="submit">Log in</button></p>
</form>
</body>
</html>
`

// refusalText is what goes out for bytes that are refused.
func refusalText(status int) string {
	phrase := phrases[status]
	body := "<!DOCTYPE html>\n<html lang=\"en\">\n<head>\n<meta charset=\"utf-8\">\n<title>Error</title>\n</head>\n<body>\n<h1>Error</h1>\n<p>" + phrase + "</p>\n</body>\n</html>\n"
	return "HTTP/1.1 " + decimal(status) + " " + phrase + "\r\nContent-Type: text/html; charset=utf-8\r\nCache-Control: no-store\r\nX-Frame-Options: DENY\r\nReferrer-Policy: no-referrer\r\nContent-Length: " + decimal(len(body)) + "\r\nConnection: close\r\n\r\n" + body
}

// mustOut fails unless just these texts went out, by their steps and connections.
func mustOut(t *testing.T, what string, got api.Trace, want ...api.Out) {
	t.Helper()
	if len(got.Outs) != len(want) {
		t.Fatalf("%s: %d answers, want %d: %+v", what, len(got.Outs), len(want), got.Outs)
	}
	for i, out := range got.Outs {
		if out != want[i] {
			t.Fatalf("%s: the answer %d is %+v, want %+v", what, i, out, want[i])
		}
	}
}

func out(step, conn int, text string) api.Out { return api.Out{Step: step, Conn: conn, Text: text} }

func TestExamples1To4(t *testing.T) {
	_, _, want := registry.Read("no configuration")
	if got, err := world.Run("no configuration", []api.Step{bytesOn(0, home)}); err != want || err == nil || !isSame(got, api.Trace{}) {
		t.Errorf("example 1: %+v, %v", got, err)
	}
	if got := mustRun(t, exampleConfig); !isSame(got, api.Trace{Boots: 1}) {
		t.Errorf("example 2: %+v", got)
	}
	if got := mustRun(t, exampleConfig, tick(5), tick(-3), tick(0), tick(2)); !isSame(got, api.Trace{Now: 7, Boots: 1}) {
		t.Errorf("example 3: %+v", got)
	}
	if got := mustRun(t, exampleConfig, tick(api.MaxNow), tick(1)); !isSame(got, api.Trace{Now: 1 << 40, Boots: 1}) {
		t.Errorf("example 3: %+v", got)
	}
	for _, script := range [][]api.Step{{crash(0)}, {arm(0, 0), crash(0)}, {arm(0, 0), arm(0, 0), crash(0)}} {
		if got := mustRun(t, exampleConfig, script...); !isSame(got, api.Trace{Boots: 2}) {
			t.Errorf("example 4: %+v gives %+v", script, got)
		}
	}
}

func TestExamples5To9(t *testing.T) {
	mustOut(t, "example 5", mustRun(t, exampleConfig, bytesOn(0, home)), out(0, 0, homeText))
	for cut := range len(home) {
		mustOut(t, "example 6", mustRun(t, exampleConfig, bytesOn(0, home[:cut]), bytesOn(0, home[cut:])), out(1, 0, homeText))
	}
	mustOut(t, "example 7", mustRun(t, exampleConfig, bytesOn(0, home+home)), out(0, 0, homeText), out(0, 0, homeText))
	nonsense := bytesOn(0, "nonsense\r\n\r\n")
	mustOut(t, "example 8", mustRun(t, exampleConfig, nonsense, bytesOn(0, home)), out(0, 0, refusalText(400)))
	mustOut(t, "example 8", mustRun(t, exampleConfig, nonsense, hangUp(0), bytesOn(0, home)), out(0, 0, refusalText(400)), out(2, 0, homeText))
	mustOut(t, "example 9", mustRun(t, exampleConfig, bytesOn(16, home), bytesOn(-1, home)))
}

func TestExamples10To12(t *testing.T) {
	login := bytesOn(0, exampleLogin)
	dry := mustRun(t, exampleConfig, login)
	if len(dry.Outs) != 1 || !strings.HasPrefix(dry.Outs[0].Text, "HTTP/1.1 500 ") || dry.Disk != "" {
		t.Errorf("example 10: %+v", dry)
	}
	frame := frameOf(api.Record{Kind: api.RecSession, ID: id(7), User: "ann"}).data
	state := api.State{Sessions: []api.Session{{ID: id(7), User: "ann"}}}
	entered := "HTTP/1.1 303 See Other\r\nLocation: /\r\nCache-Control: no-store\r\nSet-Cookie: sid=" + id(7) + "; Path=/; Max-Age=86400; Secure; HttpOnly; SameSite=Lax\r\nContent-Length: 0\r\nConnection: keep-alive\r\n\r\n"
	want := api.Trace{Outs: []api.Out{out(1, 0, entered)}, State: state, Disk: string(frame), Synced: len(frame), Boots: 1}
	mustBeSame(t, "example 10", mustRun(t, exampleConfig, draw(7), login), want)
	mustBeSame(t, "example 11", mustRun(t, exampleConfig, draw(7), arm(1, 0), login), api.Trace{Boots: 2})
	mustBeSame(t, "example 11", mustRun(t, exampleConfig, draw(7), arm(1, 1000000), login), api.Trace{State: state, Disk: string(frame), Synced: len(frame), Boots: 2})
	full := mustRun(t, strings.Replace(exampleConfig, "disk 100000", "disk 10", 1), draw(7), login)
	if len(full.Outs) != 1 || !strings.HasPrefix(full.Outs[0].Text, "HTTP/1.1 503 ") || full.Disk != "" || !isSameState(full.State, api.State{}) {
		t.Errorf("example 12: %+v", full)
	}
}
