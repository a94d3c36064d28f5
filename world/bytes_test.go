package world_test

import (
	"strings"
	"testing"

	"usher/api"
)

// homeClosed is home's answer on a connection that closes.
var homeClosed = strings.Replace(homeText, "keep-alive", "close", 1)

// TestOneRequest: in one chunk, cut at every place, and byte by byte.
func TestOneRequest(t *testing.T) {
	text := textOf(config())
	for conn, raw := range []string{home, login("ann", "password"), introspecting(id(3)), "\r\n" + home, chunked("POST", "/login", "user=ann&pass=password", 3, "Content-Type: "+formType), "GET http://x?a=b HTTP/1.1\r\nHost: x\r\n\r\n"} {
		whole := mustRun(t, text, draw(1), bytesOn(conn, raw))
		if len(whole.Outs) != 1 || whole.Outs[0].Step != 1 || whole.Outs[0].Conn != conn {
			t.Fatalf("P20.4: %q is answered %+v", raw, whole.Outs)
		}
		for cut := range len(raw) {
			halves := mustRun(t, text, draw(1), bytesOn(conn, raw[:cut]), bytesOn(conn, raw[cut:]))
			mustOut(t, "P20.4", halves, out(2, conn, whole.Outs[0].Text))
			mustBeSame(t, "P20.4", numberless(halves), numberless(whole))
		}
		script := []api.Step{draw(1)}
		for i := range len(raw) {
			script = append(script, bytesOn(conn, raw[i:i+1]), bytesOn(conn, ""))
		}
		mustOut(t, "P20.4", mustRun(t, text, script...), out(2*len(raw)-1, conn, whole.Outs[0].Text))
	}
}

// chunked is a request whose body goes in chunks.
func chunked(method, target, body string, size int, fields ...string) string {
	var b strings.Builder
	b.WriteString(method + " " + target + " HTTP/1.1\r\nHost: x\r\n" + strings.Join(fields, "\r\n") + "\r\nTransfer-Encoding: chunked\r\n\r\n")
	for body != "" {
		n := min(size, len(body))
		b.WriteString(decimal(n) + "\r\n" + body[:n] + "\r\n")
		body = body[n:]
	}
	return b.String() + "0\r\n\r\n"
}

// TestSeveralRequests in one chunk, and a part of another one.
func TestSeveralRequests(t *testing.T) {
	text := textOf(config())
	for n := range 12 {
		var want []api.Out
		for range n {
			want = append(want, out(0, 4, homeText))
		}
		for _, cut := range []int{0, 1, 14, len(home) - 1} {
			mustOut(t, "P20.4", mustRun(t, text, bytesOn(4, strings.Repeat(home, n)+home[:cut]), tick(1), bytesOn(4, home[cut:])), append(want[:n:n], out(2, 4, homeText))...)
		}
	}
	one := mustRun(t, text, bytesOn(0, strings.Repeat(home, 3000)))
	if len(one.Outs) != 3000 || one.Outs[2999] != out(0, 0, homeText) {
		t.Errorf("P20.4: 3000 requests in one chunk: %d answers", len(one.Outs))
	}
}

// TestClosingRequests: behind an answer with Close nothing is served, neither in the same chunk nor in later ones, until the connection is free again.
func TestClosingRequests(t *testing.T) {
	text := textOf(config())
	for _, last := range []string{
		"GET / HTTP/1.1\r\nHost: x\r\nConnection: close\r\n\r\n", "GET / HTTP/1.1\r\nHost: x\r\nConnection: keep-alive, CLOSE\r\n\r\n", "GET / HTTP/1.0\r\n\r\n", "GET / HTTP/1.0\r\nHost: x\r\nConnection: foo\r\n\r\n",
	} {
		for _, more := range []string{"", home, "x\r\n\r\n", login("ann", "password")} {
			got := mustRun(t, text, draw(1), bytesOn(1, home+last+more), bytesOn(1, more), bytesOn(1, home), bytesOn(2, home), hangUp(1), bytesOn(1, home))
			mustOut(t, "P20.4: "+last, got, out(1, 1, homeText), out(1, 1, homeClosed), out(4, 2, homeText), out(6, 1, homeText))
			if got.Disk != "" {
				t.Errorf("P20.4: behind %q something was written", last)
			}
		}
	}
	mustOut(t, "P20.4", mustRun(t, text, bytesOn(1, "GET / HTTP/1.0\r\nConnection: keep-alive\r\n\r\n"+home)), out(0, 1, homeText), out(0, 1, homeText))
	closing := strings.Replace(login("ann", "password"), "\r\nHost", "\r\nConnection: close\r\nHost", 1)
	got := mustRun(t, text, draw(1), bytesOn(0, closing), bytesOn(0, getting("/", cookie(id(1)))), hangUp(0), bytesOn(0, getting("/", cookie(id(1)))))
	if len(got.Outs) != 2 || !strings.Contains(got.Outs[0].Text, "\r\nConnection: close\r\n\r\n") || !strings.Contains(got.Outs[1].Text, "You are logged in as ann.") {
		t.Errorf("P20.4: a login that closes: %+v", got.Outs)
	}
}

// refused are bytes that an intake of head 8192 and body 4096 refuses, with the status.
func refused() map[string]int {
	field := func(line string) string { return "POST /login HTTP/1.1\r\nHost: x\r\n" + line + "\r\n\r\n" }
	return map[string]int{
		"nonsense\r\n\r\n": 400, "\r\n\r\n": 400, "GET  / HTTP/1.1\r\nHost: x\r\n\r\n": 400, "GET / HTTP/1.1\r\n\r\n": 400, "GET / HTTP/1.1\nHost: x\r\n\r\n": 400, "GET x HTTP/1.1\r\nHost: x\r\n\r\n": 400,
		field("Host: y"): 400, field("A : b"): 400, field(" a"): 400, field("A: \x00"): 400, field("Content-Length: +1"): 400, field("Content-Length: 1\r\nContent-Length: 1"): 400,
		field("Transfer-Encoding: chunked\r\nContent-Length: 1"): 400, field("Transfer-Encoding: chunked") + "x\r\n": 400, field("Transfer-Encoding: chunked") + "1\r\nabc": 400,
		field("Content-Length: 4097"): 413, field("Content-Length: 99999999999999999999"): 413, field("Transfer-Encoding: chunked") + "1001\r\n": 413,
		field("Expect: 100-continue"): 417, strings.Repeat("a", 8192): 431, field(strings.Repeat("A: b\r\n", 64) + "A: b"): 431, field("A: " + strings.Repeat("b", 8192)): 431,
		field("Transfer-Encoding: gzip"): 501, "GET / HTTP/1.2\r\nHost: x\r\n\r\n": 505, "HEAD / HTTP/2.0\r\nHost: x\r\n\r\n": 505,
	}
}

// TestRefusedBytes: the error page of the status, never bare; the connection is shut; nothing that is kept changes (W3). Ahead of them and behind them good requests.
func TestRefusedBytes(t *testing.T) {
	text := textOf(config())
	met := map[int]bool{}
	for raw, status := range refused() {
		met[status] = true
		page := refusalText(status)
		mustOut(t, "P20.4", mustRun(t, text, bytesOn(0, raw), bytesOn(0, home), bytesOn(1, home)), out(0, 0, page), out(2, 1, homeText))
		mustOut(t, "P20.4", mustRun(t, text, bytesOn(0, home+raw+home), bytesOn(0, ""), hangUp(0), bytesOn(0, home)), out(0, 0, homeText), out(0, 0, page), out(3, 0, homeText))
		acts := tour()
		ahead := mustRun(t, text, steps(acts[:14])...)
		behind := mustRun(t, text, append(steps(acts[:14]), draw(99), bytesOn(0, raw))...)
		if behind.Disk != ahead.Disk || !isSameState(behind.State, ahead.State) || behind.Boots != 1 {
			t.Errorf("W3: %q has changed what is kept", raw)
		}
		mustOut(t, "W3", behind, append(ahead.Outs, out(len(steps(acts[:14]))+1, 0, page))...)
		if rest := mustRun(t, text, join(steps(acts[:14]), []api.Step{bytesOn(0, raw), hangUp(0)}, steps(acts[14:]))...); len(rest.Outs) != len(acts)+1 || rest.Disk != mustRun(t, text, steps(acts)...).Disk {
			t.Errorf("W3: behind %q the tour does not go on as it would have", raw)
		}
		var script []api.Step
		for i := range len(raw) {
			script = append(script, bytesOn(0, raw[i:i+1]))
		}
		if pieces := mustRun(t, text, script...); len(pieces.Outs) != 1 || pieces.Outs[0].Text != page {
			t.Errorf("W2: %q byte by byte: %+v, want %d", raw, pieces.Outs, status)
		}
	}
	for _, status := range []int{400, 413, 417, 431, 501, 505} {
		if !met[status] {
			t.Errorf("no bytes here are refused with %d", status)
		}
	}
}

// TestLimits: heads and bodies of just as many bytes as may be, and of one more.
func TestLimits(t *testing.T) {
	c := config()
	for _, w := range []struct{ head, body int }{{60, 0}, {200, 30}, {8192, 4096}, {api.MaxHead, api.MaxBody}} {
		c.HeadMax, c.BodyMax = w.head, w.body
		begin := "GET / HTTP/1.1\r\nHost: x\r\nA: "
		fill := strings.Repeat("b", w.head-len(begin)-4)
		mustOut(t, "P20.4: a head at the limit", mustRun(t, textOf(c), bytesOn(0, begin+fill+"\r\n\r\n"+home)), out(0, 0, homeText), out(0, 0, homeText))
		mustOut(t, "P20.4: a head above it", mustRun(t, textOf(c), bytesOn(0, begin+fill+"b\r\n\r\n"+home)), out(0, 0, refusalText(431)))
		mustOut(t, "P20.4: no end of a head", mustRun(t, textOf(c), bytesOn(0, strings.Repeat("a", w.head-1)), bytesOn(0, "a")), out(1, 0, refusalText(431)))
		if w.head < 100 {
			continue
		}
		for _, encoding := range []string{"plain", "chunked"} {
			send := func(size int) []api.Step {
				body := strings.Repeat("x", size)
				if encoding == "plain" {
					return []api.Step{bytesOn(0, request("POST", "/nothing", body))}
				}
				digits := strings.TrimLeft(hexOf(size), "0")
				return []api.Step{bytesOn(0, "POST /nothing HTTP/1.1\r\nHost: x\r\nTransfer-Encoding: chunked\r\n\r\n"+digits+"\r\n"+body+"\r\n0\r\n\r\n")}
			}
			at := mustRun(t, textOf(c), append(send(w.body), bytesOn(0, home))...)
			if len(at.Outs) != 2 || !strings.HasPrefix(at.Outs[0].Text, "HTTP/1.1 404 ") || at.Outs[1].Text != homeText {
				t.Errorf("P20.4: a %s body at the limit: %+v", encoding, at.Outs)
			}
			mustOut(t, "P20.4: a "+encoding+" body above the limit", mustRun(t, textOf(c), append(send(w.body+1), bytesOn(0, home))...), out(0, 0, refusalText(413)))
		}
	}
}

func hexOf(n int) string {
	const digits = "0123456789abcdef"
	text := ""
	for ; n > 0; n /= 16 {
		text = digits[n%16:n%16+1] + text
	}
	return text
}

// TestLongestAnswers: a request at the greatest limits, of what is longest when it is escaped, is answered whole.
func TestLongestAnswers(t *testing.T) {
	c := config()
	c.HeadMax, c.BodyMax = api.MaxHead, api.MaxBody
	begin, end := "GET /login?next=/", " HTTP/1.1\r\nHost: x\r\n\r\n"
	next := strings.Repeat(`"`, api.MaxHead-len(begin)-len(end))
	body := "user=ann&pass=no&next=/" + strings.Repeat(`'`, api.MaxBody-23)
	script := onConn(0, begin+next+end, request("POST", "/login", body, "Content-Type: "+formType), home)
	got := mustBeAsModel(t, c, script)
	if len(got.Outs) != 3 || strings.Count(got.Outs[0].Text, "&quot;") != len(next) || strings.Count(got.Outs[1].Text, "&#39;") != api.MaxBody-23 {
		t.Errorf("P20.4: the longest answers: %d", len(got.Outs))
	}
}

// TestHeads: an answer to HEAD is bare, and just that.
func TestHeads(t *testing.T) {
	text := textOf(config())
	bare := homeText[:strings.Index(homeText, "\r\n\r\n")+4]
	headOf := func(raw string) string { return strings.Replace(raw, "GET ", "HEAD ", 1) }
	mustOut(t, "P20.4", mustRun(t, text, bytesOn(0, headOf(home)+home+headOf(home))), out(0, 0, bare), out(0, 0, homeText), out(0, 0, bare))
	for _, raw := range []string{getting("/nothing"), getting("/login?next=/a"), getting("/token"), getting("/?a=%"), getting("/authorize")} {
		long, short := mustRun(t, text, bytesOn(0, raw)), mustRun(t, text, bytesOn(0, headOf(raw)))
		if at := strings.Index(short.Outs[0].Text, "\r\n\r\n") + 4; at != len(short.Outs[0].Text) {
			t.Errorf("P20.4: HEAD %q has a body: %q", raw, short.Outs[0].Text)
		}
		if raw != getting("/authorize") && raw != getting("/token") && !strings.HasPrefix(long.Outs[0].Text, short.Outs[0].Text) {
			t.Errorf("P20.4: HEAD %q has another head: %q", raw, short.Outs[0].Text)
		}
	}
	for _, method := range []string{"head", "HEAD1", "Head", "POST"} {
		got := mustRun(t, text, bytesOn(0, request(method, "/nothing", "")))
		if !strings.HasSuffix(got.Outs[0].Text, "</html>\n") {
			t.Errorf("P20.4: the answer to %s is bare", method)
		}
	}
}

// TestSixteenConnections beside one another, byte by byte by turns: each is as if it were alone.
func TestSixteenConnections(t *testing.T) {
	var raws []string
	for conn := range 16 {
		raws = append(raws, []string{home + home, "nonsense\r\n\r\n" + home, getting("/nothing"), request("HEAD", "/login", ""), getting("/login?next=/" + decimal(conn))}[conn%5])
	}
	var script []api.Step
	for i := range 120 {
		for conn, raw := range raws {
			if i < len(raw) {
				script = append(script, bytesOn(conn, raw[i:i+1]))
			}
		}
	}
	got := mustBeAsModel(t, config(), script)
	for conn, raw := range raws {
		alone := mustRun(t, textOf(config()), bytesOn(conn, raw))
		var texts string
		for _, o := range got.Outs {
			if o.Conn == conn {
				texts += o.Text
			}
		}
		var want string
		for _, o := range alone.Outs {
			want += o.Text
		}
		if texts != want || want == "" {
			t.Errorf("P20.4: on the connection %d went out %q, want %q", conn, texts, want)
		}
	}
}

// TestRefusalsOfTheDesks: no draw, a draw that is known, no room: they leave the connection as the request wants it (W3).
func TestRefusalsOfTheDesks(t *testing.T) {
	acts := tour()
	text := textOf(config())
	for i, a := range acts {
		if !a.writes {
			continue
		}
		ahead, behind := mustRun(t, text, steps(acts[:i])...), mustRun(t, text, steps(acts[:i+1])...)
		full := config()
		full.DiskBytes = len(behind.Disk)
		mustBeSame(t, "W3: just enough room", mustRun(t, textOf(full), steps(acts[:i+1])...), behind)
		full.DiskBytes-- // one byte is missing
		for _, w := range []struct {
			name, text string
			draws      []byte
			status     string
		}{
			{"no draw", text, nil, "HTTP/1.1 500 "}, {"one draw less", text, a.draws[:max(0, len(a.draws)-1)], "HTTP/1.1 500 "}, {"a draw that is known", text, []byte{1, 1}, "HTTP/1.1 500 "}, {"two draws alike", text, []byte{99, 99}, "HTTP/1.1 500 "}, {"no room", textOf(full), []byte{98, 99}, "HTTP/1.1 503 "},
		} {
			isDrawless := len(a.draws) == 0 && w.name != "no room"
			isFirst := a.name == "login" && w.name == "a draw that is known" // nothing is known yet
			isOne := len(a.draws) == 1 && w.name == "two draws alike"
			if isDrawless || isFirst || isOne {
				continue
			}
			closing := strings.Replace(a.raw, "\r\nHost", "\r\nConnection: close\r\nHost", 1)
			script := join(steps(acts[:i]), draws(w.draws...), onConn(0, a.raw, home, closing, home))
			got := mustRun(t, w.text, script...)
			outs := got.Outs[len(ahead.Outs):]
			if len(outs) != 3 || !strings.HasPrefix(outs[0].Text, w.status) || outs[1].Text != homeText || !strings.Contains(outs[0].Text, "\r\nConnection: keep-alive\r\n") || !strings.Contains(outs[2].Text, "\r\nConnection: close\r\n") {
				t.Errorf("W3: %s with %s: %+v", a.name, w.name, outs)
			}
			if got.Disk != ahead.Disk || !isSameState(got.State, ahead.State) || got.Boots != 1 {
				t.Errorf("W3: %s with %s has changed what is kept", a.name, w.name)
			}
		}
	}
}
