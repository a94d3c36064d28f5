package world_test

import (
	"strings"
	"testing"

	"usher/api"
)

// wholeConfig is the configuration of DOC.md, 'A whole run'.
const wholeConfig = `code-life 60
token-life 3600
session-life 86400
refresh-life 100000
disk 100000
head 8192
body 4096
rounds 1
client app public
redirect https://a.example/cb
scopes read write
client web secret 73616c74 120fb6cffcf8b32c43e7225256c4f837a86548c92ccc35480805987cb70be17b
redirect https://w.example/cb
scopes read
user ann 73616c74 120fb6cffcf8b32c43e7225256c4f837a86548c92ccc35480805987cb70be17b
`

// What is sent in DOC.md's run.
const (
	wholeQuestion = "client_id=app&redirect_uri=https%3A%2F%2Fa.example%2Fcb&response_type=code&scope=read+write&state=xyz&code_challenge=E9Melhoa2OwvFrEMTJguCHaoeK1t8URWbuGJSstw-cM&code_challenge_method=S256"
	wholeAsk      = "GET /authorize?" + wholeQuestion + " HTTP/1.1\r\nHost: usher.example\r\n"
	wholeCookie   = "Cookie: sid=AAAAAAAAAAAAAAAAAAAAAAAAAAAAAAAAAAAAAAAAAAA\r\n"
	wholeDecided  = wholeQuestion + "&ticket=c0Wp67GfmY2Wm-4SIyXcr6dbnf6pQr9Q6GLdG8HotwY&decision=allow&grant%3Aread=yes"
	wholeRedeem   = "grant_type=authorization_code&code=AQEBAQEBAQEBAQEBAQEBAQEBAQEBAQEBAQEBAQEBAQE&redirect_uri=https%3A%2F%2Fa.example%2Fcb&code_verifier=dBjftJeZ4CVP-mB92K27uhbUJU1p1r_wW1gFWFOEjXk&client_id=app"
	wholeToken    = "AgICAgICAgICAgICAgICAgICAgICAgICAgICAgICAgI"
	wholeForm     = `<form method="post" action="/consent">
<input type="hidden" name="client_id" value="app">
<input type="hidden" name="redirect_uri" value="https://a.example/cb">
<input type="hidden" name="response_type" value="code">
<input type="hidden" name="scope" value="read write">
<input type="hidden" name="state" value="xyz">
<input type="hidden" name="code_challenge" value="E9Melhoa2OwvFrEMTJguCHaoeK1t8URWbuGJSstw-cM">
<input type="hidden" name="code_challenge_method" value="S256">
<input type="hidden" name="ticket" value="c0Wp67GfmY2Wm-4SIyXcr6dbnf6pQr9Q6GLdG8HotwY">
<input type="hidden" name="decision" value="allow">
<p><label><input type="checkbox" name="grant:read" value="yes" checked> read</label></p>
<p><label><input type="checkbox" name="grant:write" value="yes" checked> write</label></p>
<p><button type="submit">Allow</button></p>
</form>
`
)

// wholePost is a POST of a form, with more lines of fields.
func wholePost(path, fields, body string) api.Step {
	return bytesOn(0, "POST "+path+" HTTP/1.1\r\nHost: usher.example\r\nContent-Type: application/x-www-form-urlencoded\r\n"+fields+"Content-Length: "+decimal(len(body))+"\r\n\r\n"+body)
}

func lines(list ...string) string { return strings.Join(list, "\r\n") }

// wholeToCode comes to the code of example 4: eight steps.
func wholeToCode() []api.Step {
	return join(draws(0, 1, 2), []api.Step{bytesOn(0, wholeAsk+"\r\n"), wholePost("/login", "", "user=ann&pass=password&next=%2F"), tick(5), bytesOn(0, wholeAsk+wholeCookie+"\r\n"), wholePost("/consent", wholeCookie, wholeDecided), tick(10)})
}

var (
	wholeGet        = wholePost("/token", "", wholeRedeem)
	wholeIntrospect = wholePost("/introspect", "Authorization: Basic d2ViOnBhc3N3b3Jk\r\n", "token="+wholeToken)
	wholeRevoke     = wholePost("/revoke", "", "token="+wholeToken+"&client_id=app")
)

// wholeObject is an answer of the back.
func wholeObject(status, body string) string {
	return lines("HTTP/1.1 "+status, "Content-Type: application/json", "Cache-Control: no-store", "Pragma: no-cache", "Content-Length: "+decimal(len(body)), "Connection: keep-alive", "", body)
}

var (
	wholeGiven   = wholeObject("200 OK", `{"access_token":"`+wholeToken+`","token_type":"Bearer","expires_in":3600,"scope":"read"}`)
	wholeActive  = wholeObject("200 OK", `{"active":true,"scope":"read","client_id":"app","username":"ann","token_type":"Bearer","exp":3615,"iat":15}`)
	wholeOver    = wholeObject("200 OK", `{"active":false}`)
	wholeInvalid = wholeObject("400 Bad Request", `{"error":"invalid_grant"}`)
)

// TestTheWholeRun: DOC.md's, examples 1 to 8.
func TestTheWholeRun(t *testing.T) {
	script := append(wholeToCode(), wholeGet, wholeIntrospect, wholeRevoke, wholeIntrospect)
	got := mustRun(t, wholeConfig, script...)
	if len(got.Outs) != 8 {
		t.Fatalf("DOC.md: %d answers, want 8", len(got.Outs))
	}
	for i, want := range map[int]string{
		0: lines("HTTP/1.1 303 See Other", "Location: /login?next=%2Fauthorize%3Fclient_id%3Dapp%26redirect_uri%3Dhttps%253A%252F%252Fa.example%252Fcb%26response_type%3Dcode%26scope%3Dread%2Bwrite%26state%3Dxyz%26code_challenge%3DE9Melhoa2OwvFrEMTJguCHaoeK1t8URWbuGJSstw-cM%26code_challenge_method%3DS256", "Cache-Control: no-store", "Content-Length: 0", "Connection: keep-alive", "", ""),
		1: lines("HTTP/1.1 303 See Other", "Location: /", "Cache-Control: no-store", "Set-Cookie: sid=AAAAAAAAAAAAAAAAAAAAAAAAAAAAAAAAAAAAAAAAAAA; Path=/; Max-Age=86400; Secure; HttpOnly; SameSite=Lax", "Content-Length: 0", "Connection: keep-alive", "", ""),
		3: lines("HTTP/1.1 303 See Other", "Location: https://a.example/cb?code=AQEBAQEBAQEBAQEBAQEBAQEBAQEBAQEBAQEBAQEBAQE&state=xyz", "Cache-Control: no-store", "Content-Length: 0", "Connection: keep-alive", "", ""),
		4: wholeGiven,
		5: wholeActive,
		6: lines("HTTP/1.1 200 OK", "Cache-Control: no-store", "Pragma: no-cache", "Content-Length: 0", "Connection: keep-alive", "", ""),
		7: wholeOver,
	} {
		if got.Outs[i].Text != want {
			t.Errorf("DOC.md: the answer %d is %q, want %q", i+1, got.Outs[i].Text, want)
		}
	}
	page := got.Outs[2].Text
	if head := lines("HTTP/1.1 200 OK", "Content-Type: text/html; charset=utf-8", "Cache-Control: no-store", "X-Frame-Options: DENY", "Referrer-Policy: no-referrer", "Content-Length: 1736", "Connection: keep-alive", "", ""); !strings.HasPrefix(page, head) || len(page) != len(head)+1736 {
		t.Errorf("DOC.md: example 3 is %q", page)
	}
	if at := strings.Index(page, "<form"); at < 0 || !strings.HasPrefix(page[at:], wholeForm) {
		t.Errorf("DOC.md: the first form of example 3 is in %q", page)
	}
	mustBeFrames(t, got.Disk, 52, 144, 152, 47)
	if !strings.HasPrefix(got.Disk, "\x00\x00\x00\x34\x6c\x4f\x0c\x1c\x01\x32\x01\x2b\x41\x41") {
		t.Errorf("DOC.md: example 8: the disk begins with % x", got.Disk[:14])
	}
}

// mustBeFrames fails unless the frames on a disk have payloads of these sizes.
func mustBeFrames(t *testing.T, disk string, sizes ...int) {
	t.Helper()
	for _, size := range sizes {
		if len(disk) < 8+size || disk[:4] != string([]byte{0, 0, byte(size >> 8), byte(size)}) {
			t.Fatalf("DOC.md: no frame of %d bytes in % x", size, disk)
		}
		disk = disk[8+size:]
	}
	if disk != "" {
		t.Errorf("DOC.md: %d bytes too many lie on the disk", len(disk))
	}
}

// TestTheWholeRunBroken: DOC.md's, example 9: the power fails amid the token request.
func TestTheWholeRunBroken(t *testing.T) {
	for _, operation := range []int{0, 1} {
		got := mustRun(t, wholeConfig, append(wholeToCode(), arm(operation, 0), wholeGet, draw(3), wholeGet)...)
		if len(got.Outs) != 5 || got.Outs[4].Step != 12 || got.Outs[4].Text != strings.Replace(wholeGiven, wholeToken, id(3), 1) {
			t.Errorf("DOC.md: example 9, no byte kept: %+v", got.Outs[4:])
		}
		got = mustRun(t, wholeConfig, append(wholeToCode(), arm(operation, 1000000), wholeGet, wholeIntrospect, draw(3), wholeGet, wholeIntrospect)...)
		if len(got.Outs) != 7 || got.Outs[4].Text != wholeActive || got.Outs[5].Text != wholeInvalid || got.Outs[6].Text != wholeOver {
			t.Errorf("DOC.md: example 9, all bytes kept: %+v", got.Outs[4:])
		}
	}
}

// TestACodeShownAgain: DOC.md's, example 10.
func TestACodeShownAgain(t *testing.T) {
	got := mustRun(t, wholeConfig, append(wholeToCode(), wholeGet, wholeGet, wholeIntrospect)...)
	if len(got.Outs) != 7 || got.Outs[4].Text != wholeGiven || got.Outs[5].Text != wholeInvalid || got.Outs[6].Text != wholeOver {
		t.Errorf("DOC.md: example 10: %+v", got.Outs)
	}
	if code := got.State.Codes[0]; !code.Used || !code.Burned {
		t.Errorf("DOC.md: example 10: the code is %+v", code)
	}
}
