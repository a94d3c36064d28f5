package server_test

import (
	"math"
	"math/rand"
	"strings"
	"testing"

	"usher/api"
	"usher/page"
	"usher/pkce"
	"usher/server"
	"usher/store"
)

// A run is several browsers and clients over one server, with all that may fail.
type run struct {
	*bench
	random   *rand.Rand
	browsers []*browser
	codes    []string // that browsers have brought
	tokens   []string
	renewals []string // refresh tokens
	now      int
	draws    int
	statuses map[int]int
	deaths   int
}

func newRun(t *testing.T, random *rand.Rand) *run {
	t.Helper()
	c := braked(random.Intn(4), random.Intn(12))
	c.SessionLife, c.CodeLife, c.TokenLife, c.RefreshLife = 1+random.Intn(300), 1+random.Intn(100), 1+random.Intn(200), 1+random.Intn(200)
	room := plenty
	if random.Intn(4) == 0 {
		room = 300 + random.Intn(1200)
	}
	r := &run{bench: benchOn(t, c, nil, room), random: random, statuses: map[int]int{}}
	for range 3 {
		r.browsers = append(r.browsers, &browser{})
	}
	return r
}

// drawnQuestion is what some client may ask, mostly well-formed.
func drawnQuestion(random *rand.Rand) []api.Pair {
	asked := with(question(oneOf(random, "read", "read", "read write", "offline_access read", "offline_access", "write read offline_access")), "state", oneOf(random, "s 1", "", "&x", "x\n"))
	switch random.Intn(8) {
	case 0:
		asked = with(with(with(asked, "client_id", "web"), "redirect_uri", webAddress), "scope", oneOf(random, "read", "offline_access", "write"))
	case 1:
		asked = oddQuestion()
	case 2:
		f := oneOf(random, faults()...)
		asked = f.params
	}
	return asked
}

// drawnForm is one of the forms of a browser's page, as it stands or spoiled.
func (r *run) drawnForm(w *browser) api.Request {
	form := r.random.Intn(len(w.page.Forms)) * r.random.Intn(2)
	user := oneOf(r.random, "ann", "ann", "bob", "carl", oddName)
	pass := oneOf(r.random, passwords[user], passwords[user], passwords[user], passwords[user], "no", "")
	typed := []string{"user", user, "pass", pass}
	for _, scope := range []string{"read", "write", "offline_access", "<b>"} {
		if r.random.Intn(4) == 0 {
			typed = append(typed, "grant:"+scope, "yes")
		}
	}
	q := w.submit(form, typed...)
	switch r.random.Intn(24) {
	case 0:
		q.Body = q.Body + "&" + oneOf(r.random, "%", "user=ann", "ticket=x", "decision=allow", "client_id=web", "a=b", "next=/")
	case 1:
		q.Fields = with(q.Fields, "content-type", "text/plain")
	case 2:
		other := oneOf(r.random, r.browsers...) // a form that somebody else's browser sends
		q.Fields = with(q.Fields, "cookie")
		q = other.asIt(q)
	case 3:
		params := page.Sent(w.page.Forms[form], nil)
		if len(params) > 0 {
			q = w.asIt(posting(w.page.Forms[form].Action, with(params, oneOf(r.random, params...).Name)))
		}
	}
	return q
}

// drawnVisit is what a browser does next.
func (r *run) drawnVisit(w *browser) api.Request {
	isHome := w.page.Title == "Usher" && w.sid != "" // whose forms end things
	if len(w.page.Forms) > 0 && r.random.Intn(8) > 0 && (!isHome || r.random.Intn(4) == 0) {
		return r.drawnForm(w)
	}
	switch r.random.Intn(12) {
	case 0:
		return w.asIt(getting("/"))
	case 1:
		return w.asIt(request("HEAD", oneOf(r.random, "/", "/login", "/authorize", "/login?next=/a")))
	case 2:
		return w.asIt(getting("/login?next=" + oneOf(r.random, "/", "//evil.example", "/a%3Fb", "%2F%5Cevil", "https://evil.example")))
	case 3:
		return w.asIt(logout())
	case 4:
		return w.asIt(request(oneOf(r.random, "PUT", "get", "POST"), oneOf(r.random, append(paths(), "/nothing", "/token/")...)))
	case 5:
		return login(oneOf(r.random, "ann", "bob"), oneOf(r.random, "pw", "wp"))
	}
	return w.asIt(authorize(drawnQuestion(r.random)))
}

// known is one of a list by chance, mostly the last; or nobody's.
func (r *run) known(list []string) string {
	if len(list) == 0 || r.random.Intn(12) == 0 {
		return oneOf(r.random, "", "x", id(byte(r.random.Intn(256))))
	}
	if r.random.Intn(2) == 0 {
		return list[len(list)-1]
	}
	return oneOf(r.random, list...)
}

// drawnCall is what a client asks next; mostly it is the right one, and says so in the right way.
func (r *run) drawnCall() api.Request {
	code := r.known(r.codes)
	kept, _ := r.store.Code(code)
	var q api.Request
	switch r.random.Intn(8) {
	case 0, 1, 2:
		q = posting("/token", pairs("grant_type", "authorization_code", "code", code, "redirect_uri", kept.Redirect, "code_verifier", oneOf(r.random, verifier, verifier, verifier, "x")))
	case 3, 4:
		q = posting("/token", pairs("grant_type", oneOf(r.random, "refresh_token", "refresh_token", "refresh_token", "password", ""), "refresh_token", r.known(r.renewals), "scope", oneOf(r.random, "", "", "read", "admin")))
	case 5, 6:
		return as(oneOf(r.random, web(), web(), web(), "Bearer x"), posting("/introspect", pairs("token", r.known(append(r.tokens, r.renewals...)))))
	default:
		q = posting("/revoke", pairs("token", r.known(append(r.renewals, r.tokens...))))
	}
	switch name := oneOf(r.random, "app", "app", "app", kept.Client, kept.Client, "web", oddName); {
	case name == "web" && r.random.Intn(8) > 0:
		q = as(web(), q)
	default:
		q.Body += "&" + formOf(pairs("client_id", name))
	}
	if r.random.Intn(20) == 0 {
		q = as(web(), as(web(), q))
	}
	return q
}

// learn keeps what an answer gives out.
func (r *run) learn(got api.Reply) {
	if _, code, found := strings.Cut(locationOf(got), "code="); found && len(code) >= 43 {
		r.codes = append(r.codes, code[:43])
	}
	if token := memberOf(got, "access_token"); token != "" {
		r.tokens = append(r.tokens, token)
	}
	if refresh := memberOf(got, "refresh_token"); refresh != "" {
		r.renewals = append(r.renewals, refresh)
	}
}

// send is a request on its way, and what comes of it; a browser follows no redirect but those of this server.
func (r *run) send(w *browser, q api.Request) {
	r.t.Helper()
	q.Close = r.random.Intn(5) == 0
	now := r.now
	if r.random.Intn(40) == 0 {
		now = oneOf(r.random, -1, math.MinInt, math.MaxInt, api.MaxNow, api.MaxNow+1)
	}
	got, err := r.step(now, q)
	if err != nil {
		r.deaths++
		return
	}
	r.statuses[got.Status]++
	r.learn(got)
	if w == nil {
		return
	}
	w.take(got)
	if to := locationOf(got); strings.HasPrefix(to, "/") && r.random.Intn(8) > 0 {
		if got, err = r.step(now, w.asIt(getting(to))); err == nil {
			r.learn(got)
			w.take(got)
		}
	}
}

func (r *run) open() {
	r.t.Helper()
	for range 20 {
		if r.boot() {
			return
		}
	}
	r.t.Fatal("a test's arms have no end")
}

// drawSome lets draws wait, most of them new.
func (r *run) drawSome() {
	r.t.Helper()
	for range r.random.Intn(6) {
		if r.source.Left() < api.MaxDraws {
			r.pushDraw(counted(oneOf(r.random, r.draws, r.draws, r.draws, r.draws, r.draws, max(0, r.draws-3))))
			r.draws++
		}
	}
}

// playOn is 240 steps.
func (r *run) playOn() {
	r.t.Helper()
	for range 240 {
		switch r.random.Intn(24) {
		case 0:
			r.crash(r.random.Intn(400) - 2)
			r.open()
		case 1:
			r.arm(r.random.Intn(8), r.random.Intn(400)-2)
		case 2, 3, 4, 5:
			r.drawSome()
		case 6:
			r.now += r.random.Intn(20)
		case 7, 8, 9, 10, 11, 12, 13:
			r.send(nil, r.drawnCall())
		default:
			w := oneOf(r.random, r.browsers...)
			r.send(w, r.drawnVisit(w))
		}
		if r.disk.Dead() && r.random.Intn(3) > 0 {
			r.open()
		}
	}
	r.open()
}

// TestRuns are made by chance: what was answered is counted, so that it is seen that all of it was met.
func TestRuns(t *testing.T) {
	random := rand.New(rand.NewSource(191))
	statuses := map[int]int{}
	codes, given, renewed, deaths := 0, 0, 0, 0
	for range 400 {
		r := newRun(t, random)
		r.drawSome()
		r.playOn()
		for status, count := range r.statuses {
			statuses[status] += count
		}
		codes, given, renewed, deaths = codes+len(r.codes), given+len(r.tokens), renewed+len(r.renewals), deaths+r.deaths
	}
	for _, status := range []int{200, 303, 400, 401, 403, 404, 405, 415, 429, 500, 503} {
		if statuses[status] < 50 {
			t.Errorf("%d was answered %d times: too few to tell", status, statuses[status])
		}
	}
	if codes < 1000 || given < 500 || renewed < 100 || deaths < 200 {
		t.Errorf("%d codes, %d tokens, %d refresh tokens, %d deaths: too few to tell", codes, given, renewed, deaths)
	}
}

// drawnRequest is anything: methods, targets, fields and bodies of pieces that mean something, and of others.
func drawnRequest(random *rand.Rand) api.Request {
	pieces := []string{
		"/", "/login", "/logout", "/authorize", "/consent", "/withdraw", "/token", "/introspect", "/revoke", "?", "&", "=", "%", "%2F", "+", " ", "\x00", "\xff", "é", "\r\n", `"`, "<", "\\",
		"user=ann", "&pass=pw", "&pass=no", "next=/", "next=//", "client_id=app", "&token=", "grant_type=refresh_token", "&refresh_token=", "grant_type=authorization_code", "&code=", id(1), id(2), id(3), id(4), formOf(question("read")), "&ticket=", "&decision=allow", "&grant:read=yes", strings.Repeat("a", 300), strings.Repeat("&a", 40),
	}
	some := func(most int) string {
		var text string
		for range random.Intn(most + 1) {
			text += oneOf(random, pieces...)
		}
		return text
	}
	q := request(oneOf(random, "GET", "GET", "POST", "POST", "POST", "HEAD", "PUT", "", "\xff", some(2)), oneOf(random, pieces[:9]...)+some(3))
	q.Body = some(6)
	q.Minor, q.Close = random.Intn(3)-1, random.Intn(2) == 0
	for range random.Intn(6) {
		name := oneOf(random, "content-type", "content-type", "content-type", "cookie", "Cookie", "authorization", "", "\xff", some(1))
		q.Fields = and(q.Fields, name, oneOf(random, formType, formType, formType, "sid="+id(1), "sid="+id(1), web(), "", some(3)))
	}
	if random.Intn(30) == 0 {
		q = api.Request{}
	}
	return q
}

// spoiled is a request with a piece of its target or its body taken out, or said again, or as it stands.
func spoiled(random *rand.Rand, q api.Request) api.Request {
	text := &q.Target
	if q.Body != "" && random.Intn(4) > 0 {
		text = &q.Body
	}
	from, to := random.Intn(len(*text)+1), random.Intn(len(*text)+1)
	switch random.Intn(4) {
	case 0:
		*text = (*text)[:min(from, to)] + (*text)[max(from, to):]
	case 1:
		*text = (*text)[:from] + (*text)[min(from, to):]
	}
	return q
}

// TestEveryCallEnds at any requests and times, on a disk that has room, is full, or is dead.
func TestEveryCallEnds(t *testing.T) {
	random := rand.New(rand.NewSource(192))
	lies := look(prepared(t).disk)
	seeds := everyAnswer()
	statuses := map[int]int{}
	for _, room := range []int{0, 200, plenty} {
		b := benchOn(t, braked(2, 10), lies, len(lies)+room)
		for n := range 12000 {
			if n == 9000 {
				b.crash(0)
			}
			if random.Intn(5) == 0 && b.source.Left() < api.MaxDraws {
				b.push(byte(random.Intn(256)))
			}
			q := drawnRequest(random)
			if random.Intn(2) == 0 {
				q = spoiled(random, oneOf(random, seeds...).q)
			}
			r, err := b.step(oneOf(random, 0, 5, 8, 9, 1004, 1005, -1, math.MinInt, math.MaxInt, api.MaxNow, api.MaxNow+1), q)
			if err == nil {
				statuses[r.Status]++
			}
			server.Allow(drawnRequest(random).Target)
		}
	}
	for _, status := range []int{200, 303, 400, 401, 403, 404, 405, 415, 429, 500, 503} {
		if statuses[status] < 3 {
			t.Errorf("%d was answered %d times: too few to tell", status, statuses[status])
		}
	}
}

// TestOtherConfigurations: what registry.Check refuses may be served in any way, but no call panics, and each ends.
func TestOtherConfigurations(t *testing.T) {
	random := rand.New(rand.NewSource(193))
	lies := look(prepared(t).disk)
	odd := []string{"", "\x00", "\xff\xfe", "a b", "\r\n", "evil", strings.Repeat("x", 70000)}
	for range 300 {
		c := config()
		for _, n := range []*int{&c.CodeLife, &c.TokenLife, &c.SessionLife, &c.RefreshLife, &c.Rounds, &c.Fails, &c.LockTime} {
			if random.Intn(2) == 0 {
				*n = oneOf(random, 0, -1, 1, 1001, math.MinInt, math.MaxInt)
			}
		}
		for i := range c.Clients {
			if random.Intn(2) == 0 {
				c.Clients[i].ID, c.Clients[i].Redirects, c.Clients[i].Scopes = oneOf(random, odd...), odd, odd
			}
		}
		for i := range c.Users {
			if random.Intn(2) == 0 {
				c.Users[i].Name = oneOf(random, odd...)
			}
		}
		if random.Intn(8) == 0 {
			c = api.Config{}
		}
		m := machineOn(lies, plenty)
		m.boot(t)
		v := server.New(c, m.store, m.source)
		for range 60 {
			if err := m.source.Push(counted(random.Int())); err != nil {
				t.Fatal(err)
			}
			q := drawnRequest(random)
			switch random.Intn(4) {
			case 0:
				name := oneOf(random, odd...)
				q = by(id(1), authorize(with(with(with(question("read"), "client_id", name), "redirect_uri", oneOf(random, odd...)), "scope", "evil")))
			case 1:
				q = login(oneOf(random, odd...), "pw")
			}
			v.Serve(oneOf(random, 9, -1, math.MaxInt, math.MinInt), q)
		}
	}
}

// TestNoStore: a server over no store, or no source, has no desk to ask; no call panics.
func TestNoStore(t *testing.T) {
	b := newBench(t, config())
	for _, c := range []struct {
		s   *store.Store
		src *pkce.Source
	}{{nil, nil}, {nil, b.source}, {b.store, nil}} {
		v := server.New(config(), c.s, c.src)
		for path, methods := range methodsOf {
			for _, method := range strings.Split(methods, ", ") {
				got, err := v.Serve(0, by(id(1), request(method, path, "content-type", formType)))
				if err != nil || !isSame(got, wordAt(path, 500, "server_error")) {
					t.Errorf("P0.1: %s %s without a store or a source: %+v, %v", method, path, got, err)
				}
			}
		}
	}
}
