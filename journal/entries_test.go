package journal_test

import (
	"fmt"
	"math"
	"slices"
	"strings"
	"testing"

	"usher/api"
	"usher/journal"
)

func TestNoConfiguration(t *testing.T) {
	for text, want := range map[string]error{
		"":                        api.ErrShort,
		"x":                       api.ErrText,
		"rounds 0":                api.ErrArg,
		"rounds 1\nrounds 1":      api.ErrTwice,
		config + "body 60\n":      api.ErrTwice,
		strings.Repeat("\n", 1e6): api.ErrMany,
	} {
		for _, epoch := range []int{0, 1, maxSeconds} {
			if got, err := journal.Entries(epoch, text, []api.Step{bytesOn(0, get("/"))}); len(got) != 0 || err != want {
				t.Errorf("P21.8: Entries of a text that is no configuration: %v, %v, want %v", got, err, want)
			}
		}
	}
}

func TestNoAnswers(t *testing.T) {
	mustLog(t, 0, nil)
	mustLog(t, maxSeconds, []api.Step{tick(5), draw(1), arm(3), hangUp(0), hangUp(16), hangUp(-1), crash(), {Kind: 7}, {Kind: 0}, {Kind: -1}})
	mustLog(t, 0, []api.Step{bytesOn(0, ""), bytesOn(0, "GET / HTTP/1.1\r\nHost: x\r\n\r"), bytesOn(16, get("/")), bytesOn(-1, get("/")), bytesOn(math.MinInt, get("/")), bytesOn(math.MaxInt, nonsense)})
	mustLog(t, 0, []api.Step{{Kind: 7, Data: get("/")}, {Kind: api.StepTick, Data: get("/")}, {Kind: api.StepDraw, Data: get("/")}})
}

func TestOneRequest(t *testing.T) {
	for conn := range 16 {
		mustLog(t, 5, []api.Step{bytesOn(conn, get("/"))}, got(conn, 5, "/", 200))
	}
	mustLog(t, 5, []api.Step{bytesOn(0, get(`/"\x22<b>'`))}, got(0, 5, `/"\x22<b>'`, 404))
	mustLog(t, 5, []api.Step{bytesOn(0, get("http://usher.example/a?b"))}, got(0, 5, "/a?b", 404))
	mustLog(t, 5, []api.Step{bytesOn(0, get("HTTPS://usher.example?b"))}, got(0, 5, "/?b", 200))
	mustLog(t, 5, []api.Step{bytesOn(0, get("http://usher.example"))}, got(0, 5, "/", 200))
	mustLog(t, 5, []api.Step{bytesOn(0, "\r\n"+get("/"))}, got(0, 5, "/", 200))
	mustLog(t, 5, []api.Step{bytesOn(0, "PATCH /login HTTP/1.0\r\n\r\n")}, api.Entry{At: 5, Method: "PATCH", Target: "/login", Status: 405})
	mustLog(t, 5, []api.Step{bytesOn(0, "- / HTTP/1.1\r\nHost: x\r\n\r\n")}, api.Entry{At: 5, Method: "-", Target: "/", Minor: 1, Status: 405})
}

func TestRefusals(t *testing.T) {
	const head = "POST / HTTP/1.1\r\nHost: x\r\n"
	for _, c := range []struct {
		text   string
		status int
	}{
		{nonsense, 400}, {"\r\n\r\n", 400}, {"GET / HTTP/1.1\r\n\r\n", 400}, {head + "a b: c\r\n\r\n", 400},
		{head + "Content-Length: 61\r\n\r\n", 413}, {head + "Transfer-Encoding: chunked\r\n\r\n3d\r\n", 413}, {head + "Transfer-Encoding: chunked\r\n\r\nx\r\n", 400},
		{head + "Expect: 100-continue\r\n\r\n", 417}, {strings.Repeat("a", 400), 431}, {head + "Transfer-Encoding: gzip\r\n\r\n", 501}, {"GET / HTTP/2.0\r\n\r\n", 505},
	} {
		mustLog(t, 9, []api.Step{bytesOn(3, c.text)}, refused(3, 9, c.status))
		mustLog(t, 9, []api.Step{bytesOn(3, c.text+get("/"))}, refused(3, 9, c.status))
		mustLog(t, 9, []api.Step{bytesOn(3, c.text), bytesOn(3, get("/")), bytesOn(4, get("/"))}, refused(3, 9, c.status), got(4, 9, "/", 200))
		mustLog(t, 9, []api.Step{bytesOn(3, get("/a")+get("/b")+c.text+get("/c"))}, got(3, 9, "/a", 404), got(3, 9, "/b", 404), refused(3, 9, c.status))
		mustLog(t, 9, []api.Step{bytesOn(3, get("/a")+c.text), hangUp(3), bytesOn(3, get("/b"))}, got(3, 9, "/a", 404), refused(3, 9, c.status), got(3, 9, "/b", 404))
	}
}

// TestFieldsOfARefusal: of what is refused nothing is told, whatever fields it has.
func TestFieldsOfARefusal(t *testing.T) {
	mustLog(t, 0, []api.Step{bytesOn(0, get("/", "Referer: r", "User-Agent: u", basic("ann", "p"), "Host: y"))}, refused(0, 0, 400))
	mustLog(t, 0, []api.Step{bytesOn(0, get("/a", "Referer: r", "User-Agent: u", basic("ann", "p"))+nonsense)},
		api.Entry{Method: "GET", Target: "/a", Minor: 1, User: "ann", Referer: "r", Agent: "u", Status: 404}, refused(0, 0, 400))
}

// TestLimitsAreTheConfigurations takes heads and bodies at the limits of the configuration and one beyond.
func TestLimitsAreTheConfigurations(t *testing.T) {
	for _, c := range []struct{ head, body int }{{400, 60}, {100, 0}, {65536, 65536}} {
		text := strings.Replace(strings.Replace(config, "head 400", fmt.Sprint("head ", c.head), 1), "body 60", fmt.Sprint("body ", c.body), 1)
		target := "/" + strings.Repeat("a", c.head-len(get("/")))
		mustLogOver(t, text, 0, []api.Step{bytesOn(0, get(target))}, got(0, 0, target, 404))
		mustLogOver(t, text, 0, []api.Step{bytesOn(0, get(target+"a"))}, refused(0, 0, 431))
		post := "POST /a HTTP/1.1\r\nHost: x\r\nContent-Length: "
		mustLogOver(t, text, 0, []api.Step{bytesOn(0, fmt.Sprint(post, c.body, "\r\n\r\n", strings.Repeat("b", c.body))+get("/"))},
			api.Entry{Method: "POST", Target: "/a", Minor: 1, Status: 404}, got(0, 0, "/", 200))
		mustLogOver(t, text, 0, []api.Step{bytesOn(0, fmt.Sprint(post, c.body+1, "\r\n\r\n", strings.Repeat("b", c.body+1))+get("/"))}, refused(0, 0, 413))
	}
}

func TestManyInOneStep(t *testing.T) {
	var data strings.Builder
	var want []api.Entry
	for i := range 200 {
		target := fmt.Sprint("/", i)
		data.WriteString(get(target))
		want = append(want, got(2, 7, target, 404))
	}
	mustLog(t, 7, []api.Step{bytesOn(2, data.String())}, want...)
	mustLog(t, 7, []api.Step{bytesOn(2, data.String()+nonsense)}, append(want, refused(2, 7, 400))...)
}

// TestOneInManySteps cuts a request anywhere: the time is that of the step by which it is whole.
func TestOneInManySteps(t *testing.T) {
	whole := get("/a") + login("/") + get("/b")
	ends := []int{len(get("/a")), len(get("/a") + login("/")), len(whole)}
	for cut := range len(whole) + 1 {
		at := func(end int) int {
			if end <= cut {
				return 100
			}
			return 103
		}
		mustLog(t, 100, []api.Step{draw(1), bytesOn(1, whole[:cut]), tick(3), bytesOn(1, whole[cut:]), tick(4)},
			got(1, at(ends[0]), "/a", 404), logged(1, at(ends[1])), got(1, at(ends[2]), "/b", 404))
	}
	steps := []api.Step{draw(1)}
	for i := range len(whole) {
		steps = append(steps, bytesOn(1, whole[i:i+1]), tick(1), bytesOn(1, ""))
	}
	mustLog(t, 100, steps, got(1, 100+ends[0]-1, "/a", 404), logged(1, 100+ends[1]-1), got(1, 100+ends[2]-1, "/b", 404))
}

// TestChunkedBodies: what stands in a body is no request.
func TestChunkedBodies(t *testing.T) {
	inner := "GET /x HTTP/1.1\r\nHost: x\r\n\r\n"
	text := "POST /a HTTP/1.1\r\nHost: x\r\nTransfer-Encoding: chunked\r\n\r\n" + fmt.Sprintf("%x\r\n%s\r\n0\r\nReferer: t\r\n\r\n", len(inner), inner)
	mustLog(t, 0, []api.Step{bytesOn(0, text+get("/b"))}, api.Entry{Method: "POST", Target: "/a", Minor: 1, Status: 404}, got(0, 0, "/b", 404))
	mustLog(t, 0, []api.Step{bytesOn(0, request("POST", "/a", inner)+get("/b"))}, api.Entry{Method: "POST", Target: "/a", Minor: 1, Status: 404}, got(0, 0, "/b", 404))
}

// TestSixteenConnections sends on all of them by turns, byte by byte.
func TestSixteenConnections(t *testing.T) {
	var texts [16]string
	for conn := range texts {
		texts[conn] = get(fmt.Sprint("/", conn), fmt.Sprint("Referer: r", conn)) + get(fmt.Sprint("/again", conn))
	}
	var steps []api.Step
	var want []api.Entry
	for i := range len(texts[15]) {
		for conn, text := range texts {
			if i >= len(text) {
				continue
			}
			steps = append(steps, bytesOn(conn, text[i:i+1]))
			switch i + 1 {
			case strings.Index(text, "\r\n\r\n") + 4:
				e := got(conn, i, fmt.Sprint("/", conn), 404)
				e.Referer = fmt.Sprint("r", conn)
				want = append(want, e)
			case len(text):
				want = append(want, got(conn, i, fmt.Sprint("/again", conn), 404))
			}
		}
		steps = append(steps, tick(1))
	}
	mustLog(t, 0, steps, want...)
}

// TestPowerFailsAmidARequest: what was sent on any connection is dropped, and all are free behind it, those that were shut too.
func TestPowerFailsAmidARequest(t *testing.T) {
	half := get("/half")[:10]
	for after := range 2 { // the append dies, or the sync
		mustLog(t, 0, []api.Step{
			draw(1), bytesOn(1, half), bytesOn(2, nonsense), bytesOn(3, get("/", "Connection: close")), arm(after),
			bytesOn(0, get("/a")+login("/")+get("/b")),
			tick(1), bytesOn(0, get("/c")), bytesOn(1, get("/d")), bytesOn(2, get("/e")), bytesOn(3, get("/f")),
		}, refused(2, 0, 400), got(3, 0, "/", 200), got(0, 0, "/a", 404), got(0, 1, "/c", 404), got(1, 1, "/d", 404), got(2, 1, "/e", 404), got(3, 1, "/f", 404))
	}
	mustLog(t, 0, []api.Step{draw(1), arm(1), bytesOn(0, login("/")+nonsense), bytesOn(0, get("/b"))}, got(0, 0, "/b", 404))
	mustLog(t, 0, []api.Step{draw(1), arm(1), bytesOn(0, login("/", "Connection: close")), bytesOn(0, get("/b"))}, got(0, 0, "/b", 404))
	mustLog(t, 0, []api.Step{draw(1), arm(1), bytesOn(0, login("/")[:40]), bytesOn(0, login("/")[40:]+get("/a")[:9]), bytesOn(0, get("/b"))}, got(0, 0, "/b", 404))
}

// TestPowerFailsBetweenRequests: the arm is laid down between two logins of one step.
func TestPowerFailsBetweenRequests(t *testing.T) {
	for after := range 9 {
		steps := []api.Step{draw(1), draw(2), draw(3), arm(after), bytesOn(0, get("/a")+login("/")+get("/b")+login("/")+get("/c")+login("/")+get("/d")), bytesOn(0, get("/e"))}
		want := []api.Entry{got(0, 0, "/a", 404)}
		for i, target := range []string{"/b", "/c", "/d"} {
			if after >= 2*(i+1) {
				want = append(want, logged(0, 0), got(0, 0, target, 404))
			}
		}
		mustLog(t, 0, steps, append(want, got(0, 0, "/e", 404))...)
	}
}

// TestSeveralFailures: each boot frees the connections anew; arms that die in a boot are no failure amid a request.
func TestSeveralFailures(t *testing.T) {
	mustLog(t, 0, []api.Step{
		draw(1), draw(2), draw(3), arm(0), arm(0), arm(0), arm(0), bytesOn(0, login("/")+get("/a")), bytesOn(1, get("/b")+get("/half")[:5]), bytesOn(0, login("/")), bytesOn(1, get("/half")[5:]),
	}, got(1, 0, "/b", 404), logged(0, 0), got(1, 0, "/half", 404))
	mustLog(t, 0, []api.Step{draw(1), draw(2), arm(3), bytesOn(0, login("/")), bytesOn(0, login("/")), bytesOn(0, get("/a"))}, logged(0, 0), got(0, 0, "/a", 404))
}

func TestClosingRequests(t *testing.T) {
	closing := get("/a", "Connection: foo, Close")
	mustLog(t, 0, []api.Step{bytesOn(0, closing+get("/b")), bytesOn(0, get("/c")), bytesOn(0, nonsense)}, got(0, 0, "/a", 404))
	mustLog(t, 0, []api.Step{bytesOn(0, get("/0")+closing+nonsense), bytesOn(1, get("/c"))}, got(0, 0, "/0", 404), got(0, 0, "/a", 404), got(1, 0, "/c", 404))
	mustLog(t, 0, []api.Step{bytesOn(0, closing+get("/b")[:5]), hangUp(0), bytesOn(0, get("/c"))}, got(0, 0, "/a", 404), got(0, 0, "/c", 404))
	mustLog(t, 0, []api.Step{bytesOn(0, closing), hangUp(1), hangUp(16), hangUp(-1), bytesOn(0, get("/c")), crash(), bytesOn(0, get("/d"))}, got(0, 0, "/a", 404), got(0, 0, "/d", 404))
	mustLog(t, 0, []api.Step{bytesOn(0, "GET / HTTP/1.0\r\n\r\n"+get("/b"))}, api.Entry{Method: "GET", Target: "/", Status: 200})
	mustLog(t, 0, []api.Step{bytesOn(0, "GET / HTTP/1.0\r\nConnection: keep-alive\r\n\r\n"+get("/b"))}, api.Entry{Method: "GET", Target: "/", Status: 200}, got(0, 0, "/b", 404))
}

// TestHangingUp: what the connection has sent is dropped, and nothing of another one.
func TestHangingUp(t *testing.T) {
	half, rest := get("/half")[:9], get("/half")[9:]
	for conn := range 16 {
		other := (conn + 7) % 16
		mustLog(t, 0, []api.Step{bytesOn(conn, half), bytesOn(other, half), hangUp(conn), bytesOn(conn, get("/b")), bytesOn(other, rest)}, got(conn, 0, "/b", 404), got(other, 0, "/half", 404))
		mustLog(t, 0, []api.Step{bytesOn(conn, half), hangUp(16), hangUp(-1), hangUp(other), {Kind: 7, Conn: conn}, {Kind: api.StepArm, Conn: conn}, bytesOn(conn, rest)}, got(conn, 0, "/half", 404))
	}
}

// TestCrashes: all connections are free behind one.
func TestCrashes(t *testing.T) {
	steps := []api.Step{draw(1), bytesOn(0, login("/"))}
	want := []api.Entry{logged(0, 0)}
	for conn := range 16 {
		switch conn % 3 {
		case 0:
			steps = append(steps, bytesOn(conn, get("/half")[:9]))
		case 1:
			steps = append(steps, bytesOn(conn, nonsense))
			want = append(want, refused(conn, 0, 400))
		}
	}
	steps = append(steps, tick(2), api.Step{Kind: api.StepCrash, N: 1000, Conn: 99})
	for conn := range 16 {
		steps = append(steps, bytesOn(conn, get("/b")))
		want = append(want, got(conn, 2, "/b", 404))
	}
	mustLog(t, 0, steps, want...)
}

func TestTimes(t *testing.T) {
	ask := bytesOn(0, get("/"))
	mustLog(t, 0, []api.Step{ask, tick(1), ask, tick(0), tick(-5), tick(math.MinInt), ask, tick(9), ask}, got(0, 0, "/", 200), got(0, 1, "/", 200), got(0, 1, "/", 200), got(0, 10, "/", 200))
	mustLog(t, 0, []api.Step{tick(maxSeconds - 1), ask, tick(1), ask, tick(1), ask, tick(math.MaxInt), ask}, got(0, maxSeconds-1, "/", 200), got(0, maxSeconds, "/", 200), got(0, maxSeconds, "/", 200), got(0, maxSeconds, "/", 200))
	mustLog(t, maxSeconds-2, []api.Step{ask, tick(1), ask, tick(1), ask, tick(1), ask, tick(1 << 40), ask}, got(0, maxSeconds-2, "/", 200), got(0, maxSeconds-1, "/", 200), got(0, maxSeconds, "/", 200), got(0, maxSeconds, "/", 200), got(0, maxSeconds, "/", 200))
	mustLog(t, maxSeconds, []api.Step{ask, tick(5), ask}, got(0, maxSeconds, "/", 200), got(0, maxSeconds, "/", 200))
	mustLog(t, 1000, []api.Step{tick(math.MaxInt), tick(math.MaxInt), ask, crash(), ask}, got(0, maxSeconds, "/", 200), got(0, maxSeconds, "/", 200))
	mustLog(t, 1000, []api.Step{tick(5), crash(), ask, tick(2), hangUp(0), ask, bytesOn(0, nonsense)}, got(0, 1005, "/", 200), got(0, 1007, "/", 200), refused(0, 1007, 400))
}

// TestNames: who asks is told by one field authorization that can be read.
func TestNames(t *testing.T) {
	ann, bob := basic("ann", "pw"), basic("bob", "pw")
	for _, c := range []struct {
		name   string
		fields []string
	}{
		{"", nil}, {"ann", []string{ann}}, {"", []string{ann, bob}}, {"", []string{ann, ann}}, {"", []string{ann, "authorization: Bearer x"}}, {"", []string{"Authorization: Bearer x", ann}}, {"", []string{ann, "Authorization:"}},
		{"ann", []string{strings.Replace(ann, "Authorization: Basic", "aUTHORIZATION:\t bAsIc ", 1)}}, {"", []string{"Authorization: Bearer x"}}, {"", []string{"Authorization:"}}, {"", []string{"Authorization: Basic"}}, {"", []string{"Authorization: Basic ?"}}, {"", []string{"Authorization: Basic YW5u"}}, {"", []string{ann + "="}}, {"", []string{"Authorization: ann"}},
		{"ann", []string{basic("ann", "")}}, {"", []string{"Authorization: Basic YW5uOiU="}}, {"", []string{basic("", "pw")}}, {"a:b c%\n\"\\", []string{basic("a:b c%\n\"\\", "x")}}, {"-", []string{basic("-", "x")}}, {"é\xff\x00", []string{basic("é\xff\x00", "x")}}, {"", []string{"Proxy-Authorization: Basic YW5uOnB3"}}, {"web", []string{basic("web", "wrong")}},
	} {
		e := got(0, 0, "/", 200)
		e.User = c.name
		mustLog(t, 0, []api.Step{bytesOn(0, get("/", c.fields...))}, e)
	}
	form := "Content-Type: application/x-www-form-urlencoded"
	mustLog(t, 0, []api.Step{bytesOn(0, request("POST", "/introspect", "token=x", form, basic("web", "password"))+request("POST", "/introspect", "token=x", form, basic("web", "wrong")))},
		api.Entry{User: "web", Method: "POST", Target: "/introspect", Minor: 1, Status: 200}, api.Entry{User: "web", Method: "POST", Target: "/introspect", Minor: 1, Status: 401})
}

// TestRefererAndAgent: the first of each counts, in whatever case of letters; an empty one is one too.
func TestRefererAndAgent(t *testing.T) {
	for _, c := range []struct {
		referer, agent string
		fields         []string
	}{
		{"", "", []string{"Referrer: r", "User_Agent: u", "Agent: a"}}, {"r", "", []string{"Referer: r"}}, {"", "u", []string{"User-Agent: u"}}, {"r", "u", []string{"User-Agent: u", "Referer: r"}},
		{"1", "3", []string{"Referer: 1", "Referer: 2", "User-Agent: 3", "User-Agent: 4"}}, {"2", "4", []string{"REFERER: 2", "user-agent: 4", "referer: 1", "User-Agent: 3"}}, {"", "", []string{"Referer:", "Referer: 1", "User-Agent:  ", "User-Agent: 3"}},
		{`a "b" \c` + "\té\xff", "- -", []string{"Referer: \t" + `a "b" \c` + "\té\xff ", "User-Agent: - - "}}, {"-", "-", []string{"Referer: -", "User-Agent: -"}},
	} {
		e := got(0, 0, "/", 200)
		e.Referer, e.Agent = c.referer, c.agent
		mustLog(t, 0, []api.Step{bytesOn(0, get("/", c.fields...))}, e)
	}
}

// TestHead: the bytes are those that went out, not those that were spoken of.
func TestHead(t *testing.T) {
	script := []api.Step{bytesOn(0, request("HEAD", "/", "")+get("/")+request("HEAD", "/a", ""))}
	mustLog(t, 0, script, api.Entry{Method: "HEAD", Target: "/", Minor: 1, Status: 200}, got(0, 0, "/", 200), api.Entry{Method: "HEAD", Target: "/a", Minor: 1, Status: 404})
	l, err := journal.Entries(0, config, script)
	if err != nil || l[0].Bytes != 0 || l[1].Bytes == 0 || l[2].Bytes != 0 {
		t.Errorf("P21.8: the bytes of HEAD, GET, HEAD: %+v, %v", l, err)
	}
}

// TestBytesOfAnAnswer takes answers whose bodies are known.
func TestBytesOfAnAnswer(t *testing.T) {
	for _, c := range []struct {
		text   string
		status int
		bytes  int
	}{
		{request("POST", "/logout", "a=b", "Content-Type: application/x-www-form-urlencoded"), 303, 0},
		{request("POST", "/token", "a=b", "Content-Type: application/x-www-form-urlencoded"), 401, len(`{"error":"invalid_client"}`)},
		{request("POST", "/token", "a=b"), 415, len(`{"error":"invalid_request"}`)},
	} {
		l, err := journal.Entries(0, config, []api.Step{bytesOn(0, c.text)})
		if err != nil || len(l) != 1 || l[0].Status != c.status || l[0].Bytes != c.bytes {
			t.Errorf("P21.8: %q is logged as %+v, %v, want %d with %d bytes", c.text, l, err, c.status, c.bytes)
		}
	}
}

// TestNoClientMakesALine sends what looks like lines of the log wherever a client can put something.
func TestNoClientMakesALine(t *testing.T) {
	forged := `" 200 5 "-" "-"`
	fields := []string{basic("ann\n"+firstLine+"\n", "x"), "Referer: " + forged, "User-Agent: " + forged + ` \x0a` + bareLine}
	e := got(0, 0, `/"\n"`, 404)
	e.User, e.Referer, e.Agent = "ann\n"+firstLine+"\n", forged, forged+` \x0a`+bareLine
	mustLog(t, 0, []api.Step{bytesOn(0, get(`/"\n"`, fields...))}, e)
	mustLog(t, 0, []api.Step{bytesOn(0, "GET /\n"+firstLine+"\r\n\r\n")}, refused(0, 0, 400))
}

// TestStepsBetween: what stands between the pieces of a request changes nothing of it.
func TestStepsBetween(t *testing.T) {
	whole := get("/a", "Referer: r")
	between := []api.Step{tick(1), draw(1), bytesOn(5, nonsense), hangUp(5), bytesOn(0, ""), bytesOn(16, whole), arm(100), {Kind: 9, Conn: 0}}
	e := got(0, 1, "/a", 404)
	e.Referer = "r"
	mustLog(t, 0, slices.Concat([]api.Step{bytesOn(0, whole[:20])}, between, []api.Step{bytesOn(0, whole[20:])}), refused(5, 1, 400), e)
}
