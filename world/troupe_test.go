package world_test

import (
	"encoding/base64"
	"html"
	"math/rand"
	"net/url"
	"regexp"
	"strings"
	"testing"

	"usher/api"
)

// An ask is a request ahead of its bytes.
type ask struct {
	method, target, body string
	fields               []string
}

func asking(method, target string, fields ...string) ask {
	return ask{method: method, target: target, fields: fields}
}

func sending(target string, params []api.Pair, fields ...string) ask {
	return ask{"POST", target, formText(params), append([]string{"Content-Type: " + formType}, fields...)}
}

// A browser keeps a session's cookie and the forms of the page that it shows.
type browser struct {
	sid   string
	forms []form
	title string
	to    string // where it is sent on
}

type form struct {
	action string
	inputs []api.Input
}

var (
	formParts  = regexp.MustCompile(`(?s)<form method="post" action="([^"]*)">(.*?)</form>`)
	inputParts = regexp.MustCompile(`<input type="([a-z]*)" name="([^"]*)"(?: value="([^"]*)")?`)
	titleParts = regexp.MustCompile(`<title>([^<]*)</title>`)
	inputKinds = map[string]int{"hidden": api.InHidden, "text": api.InText, "password": api.InSecret, "checkbox": api.InBox}
)

// formsOf reads the forms of a page.
func formsOf(body string) []form {
	var list []form
	for _, f := range formParts.FindAllStringSubmatch(body, -1) {
		next := form{action: html.UnescapeString(f[1])}
		for _, i := range inputParts.FindAllStringSubmatch(f[2], -1) {
			next.inputs = append(next.inputs, api.Input{Kind: inputKinds[i[1]], Name: html.UnescapeString(i[2]), Value: html.UnescapeString(i[3])})
		}
		list = append(list, next)
	}
	return list
}

// take is what a browser makes of an answer.
func (w *browser) take(r seen) {
	w.forms, w.title, w.to = formsOf(r.body), "", r.location()
	if title := titleParts.FindStringSubmatch(r.body); title != nil {
		w.title = title[1]
	}
	if sid, ok := r.sid(); ok {
		w.sid = sid
	}
}

// asIt is a request as the browser sends it.
func (w *browser) asIt(a ask) ask {
	if w.sid != "" {
		a.fields = append(append([]string{}, a.fields...), cookie(w.sid))
	}
	return a
}

// A troupe is several browsers and clients whose steps make up a script. The model tells them what is answered.
type troupe struct {
	t        *testing.T
	random   *rand.Rand
	config   api.Config
	model    *model
	script   []api.Step
	browsers []*browser
	codes    []string
	tokens   []string
	renewals []string
	draws    int
	isNeat   bool // each request is one step of its own, plainly written
	statuses map[int]int
	deaths   int
}

func newTroupe(t *testing.T, random *rand.Rand, isNeat bool) *troupe {
	c := braked(random.Intn(4), random.Intn(12))
	for _, life := range []*int{&c.SessionLife, &c.CodeLife, &c.TokenLife, &c.RefreshLife} {
		*life = oneOf(random, 1+random.Intn(400), 100+random.Intn(400), 1000)
	}
	if random.Intn(4) == 0 {
		c.DiskBytes = 300 + random.Intn(2000)
	}
	if !isNeat && random.Intn(4) == 0 {
		c.HeadMax, c.BodyMax = 400+random.Intn(400), 100+random.Intn(300)
	}
	p := &troupe{t: t, random: random, config: c, model: newModel(c), isNeat: isNeat, statuses: map[int]int{}}
	for range 3 {
		p.browsers = append(p.browsers, &browser{})
	}
	return p
}

// do plays a step, and lets all learn of what goes out.
func (p *troupe) do(step api.Step, w *browser) {
	p.t.Helper()
	p.script = append(p.script, step)
	boots := p.model.boots
	for _, out := range p.model.do(step) {
		method := "GET"
		if strings.HasSuffix(out.Text, "\r\n\r\n") { // no body, as behind a HEAD
			method = "HEAD"
		}
		r, _ := readFirst(p.t, out.Text, method)
		p.statuses[r.status]++
		p.learn(r)
		if w != nil {
			w.take(r)
		}
	}
	if step.Kind == api.StepBytes && p.model.boots > boots {
		p.deaths++
	}
}

// learn keeps what an answer gives out.
func (p *troupe) learn(r seen) {
	if code := r.code(); code != "" {
		p.codes = append(p.codes, code)
	}
	if token := r.member("access_token"); token != "" {
		p.tokens = append(p.tokens, token)
	}
	if refresh := r.member("refresh_token"); refresh != "" {
		p.renewals = append(p.renewals, refresh)
	}
}

// drawnQuestion is what some client may ask, mostly well-formed.
func drawnQuestion(random *rand.Rand) []api.Pair {
	q := with(question(oneOf(random, "read", "read", "read write", "offline_access read", "offline_access", "write read offline_access")), "state", oneOf(random, "s 1", "s 1", "", "&x", `"><script>`))
	switch random.Intn(16) {
	case 0, 1:
		q = with(with(with(q, "client_id", "web"), "redirect_uri", webAddress), "scope", oneOf(random, "read", "offline_access", "write"))
	case 2:
		q = with(with(with(q, "client_id", oddName), "redirect_uri", oddAddress), "scope", "'&' <b>")
	case 3:
		q = with(with(q, "client_id", "other"), "scope", "read write")
	case 4:
		q = with(q, "redirect_uri", "com.example.app:/cb?k?")
	case 5:
		name := oneOf(random, q...).Name
		q = with(q, name, oneOf(random, []string{}, []string{"x"}, []string{"a", "b"}, []string{""}, []string{strings.Repeat("s", 513)}, []string{"é"}, []string{"x\n"})...)
	}
	if random.Intn(20) == 0 {
		random.Shuffle(len(q), func(i, j int) { q[i], q[j] = q[j], q[i] })
	}
	return q
}

// drawnForm is one of the forms of a browser's page, as it stands or spoiled.
func (p *troupe) drawnForm(w *browser) ask {
	f := w.forms[p.random.Intn(len(w.forms))*p.random.Intn(2)]
	user := oneOf(p.random, "ann", "ann", "ann", "ann", "bob", "bob", oddName)
	pass := passwords[user]
	switch p.random.Intn(16) {
	case 0, 1:
		pass = "no"
	case 2:
		user = oneOf(p.random, "carl", "", "ANN", "ann ")
	}
	var params []api.Pair
	for _, i := range f.inputs {
		switch {
		case i.Kind == api.InText:
			i.Value = user
		case i.Kind == api.InSecret:
			i.Value = pass
		case i.Kind == api.InBox && p.random.Intn(4) == 0:
			continue
		}
		params = and(params, i.Name, i.Value)
	}
	a := w.asIt(sending(f.action, params))
	switch p.random.Intn(24) {
	case 0:
		a.body += "&" + oneOf(p.random, "%", "user=ann", "ticket=x", "decision=allow", "client_id=web", "a=b", "next=/", strings.Repeat("a=b&", 32))
	case 1:
		a.fields[0] = oneOf(p.random, "Content-Type: text/plain", "Content-Type: "+formType+"; charset=utf-8", "X: y", "content-type: Application/X-WWW-form-urlencoded;")
	case 2:
		a = oneOf(p.random, p.browsers...).asIt(sending(f.action, params)) // somebody else's browser sends it
	case 3:
		if len(params) > 0 {
			a = w.asIt(sending(f.action, with(params, oneOf(p.random, params...).Name)))
		}
	case 4:
		if len(params) > 0 {
			a = w.asIt(sending(f.action, with(params, oneOf(p.random, params...).Name, oneOf(p.random, "x", "web", "read", "allow", "yes"))))
		}
	case 5:
		a.fields = append(a.fields, oneOf(p.random, cookie(id(7)), "Cookie: a=b"))
	}
	return a
}

// drawnVisit is what a browser does next.
func (p *troupe) drawnVisit(w *browser) ask {
	if strings.HasPrefix(w.to, "/") && w.to != "/" && p.random.Intn(12) > 0 {
		return w.asIt(asking("GET", w.to))
	}
	isHome := w.title == "Usher" && w.sid != "" // whose forms end things
	if len(w.forms) > 0 && p.random.Intn(8) > 0 && (!isHome || p.random.Intn(4) == 0) {
		return p.drawnForm(w)
	}
	switch p.random.Intn(20) {
	case 0, 1:
		return w.asIt(asking("GET", "/"))
	case 2:
		return w.asIt(asking("HEAD", oneOf(p.random, "/", "/login", "/authorize", "/login?next=/a", "/?a=%")))
	case 3:
		return w.asIt(asking("GET", "/login?next="+oneOf(p.random, "/", "//evil.example", "/a%3Fb", "%2F%5Cevil", "https://evil.example", "/%22%3E", "/&next=/")))
	case 4:
		return w.asIt(sending("/logout", nil))
	case 5:
		return w.asIt(asking(oneOf(p.random, "PUT", "get", "POST"), oneOf(p.random, "/", "/login", "/logout", "/token", "/nothing", "/token/", "/authorize", "/LOGIN", "/%6Cogin")))
	case 6:
		return sending("/login", pairs("user", oneOf(p.random, "ann", "bob"), "pass", oneOf(p.random, "password", "wp"), "next", oneOf(p.random, "/", "/a?b", "//x", "")))
	case 7:
		a := asking("GET", "/", oneOf(p.random, `Cookie: a=b; sid="`+w.sid+`"`, "Cookie: sid="+w.sid+"; sid=", "Cookie: SID="+w.sid, "cOOkie: ;; sid="+w.sid+" ;", "Cookie: a; sid="+w.sid))
		return a
	}
	return w.asIt(asking("GET", "/authorize?"+formText(drawnQuestion(p.random))))
}

// known is one of a list by chance, mostly the last; or nobody's.
func (p *troupe) known(list []string) string {
	if len(list) == 0 || p.random.Intn(12) == 0 {
		return oneOf(p.random, "", "x", id(byte(p.random.Intn(256))))
	}
	if p.random.Intn(2) == 0 {
		return list[len(list)-1]
	}
	return oneOf(p.random, list...)
}

// drawnCall is what a client asks next; mostly it is the right one, and says so in the right way.
func (p *troupe) drawnCall() ask {
	state := p.model.kept.state()
	code, refresh := p.known(p.codes), p.known(p.renewals)
	if p.random.Intn(3) > 0 { // one that is not used, if there is one
		if c, ok := find(state.Codes, func(c api.Code) bool { return !c.Used && p.model.now < c.At+p.config.CodeLife }); ok {
			code = c.ID
		}
		if r, ok := find(state.Refreshes, func(r api.Refresh) bool { return !r.Used }); ok {
			refresh = r.ID
		}
	}
	kept, _ := codeOf(state, code)
	owner := kept.Client
	all := append(append([]string{}, p.renewals...), p.tokens...)
	var params []api.Pair
	path := "/token"
	switch p.random.Intn(8) {
	case 0, 1, 2:
		redirect := oneOf(p.random, kept.Redirect, kept.Redirect, kept.Redirect, kept.Redirect, kept.Redirect, address)
		params = pairs("grant_type", "authorization_code", "code", code, "redirect_uri", redirect, "code_verifier", oneOf(p.random, verifier, verifier, verifier, verifier, "x", strings.Repeat("w", 43)))
	case 3, 4:
		r, _ := refreshOf(state, refresh)
		owner = r.Client
		params = pairs("grant_type", oneOf(p.random, "refresh_token", "refresh_token", "refresh_token", "password", ""), "refresh_token", refresh, "scope", oneOf(p.random, "", "", "read", "admin", "offline_access read", "read  read"))
	case 5, 6:
		return sending("/introspect", pairs("token", p.known(all)), oneOf(p.random, asWeb(), asWeb(), asWeb(), basicField("other", "other"), "Authorization: Bearer x", basicField("web", "no"), basicField("app", "")))
	default:
		path, params = "/revoke", pairs("token", p.known(all))
	}
	name := oneOf(p.random, owner, owner, owner, owner, owner, owner, owner, owner, "app", "web", "other", oddName, "nobody")
	return p.signed(path, params, name)
}

// signed is a client's request with what shows who it is, mostly as it should be.
func (p *troupe) signed(path string, params []api.Pair, name string) ask {
	pass := map[string]string{"web": webPass, "other": "other"}[name]
	if p.random.Intn(16) == 0 {
		pass = "no"
	}
	switch {
	case p.random.Intn(24) == 0:
		return sending(path, and(params, "client_id", name, "client_id", name))
	case p.random.Intn(24) == 0:
		return sending(path, params, basicField(name, pass), basicField(name, pass))
	case pass == "":
		return sending(path, and(params, "client_id", name))
	case p.random.Intn(2) == 0:
		return sending(path, and(params, "client_id", name, "client_secret", pass))
	case p.random.Intn(8) == 0:
		return sending(path, params, "authorization: bAsIc   "+base64.StdEncoding.EncodeToString([]byte(name+":"+url.QueryEscape(pass))))
	}
	return sending(path, params, basicField(name, pass))
}

// drawSome lets draws wait, most of them new.
func (p *troupe) drawSome() {
	for range p.random.Intn(6) {
		n := oneOf(p.random, p.draws, p.draws, p.draws, p.draws, p.draws, p.draws, max(0, p.draws-3))
		p.do(api.Step{Kind: api.StepDraw, Data: counted(n)}, nil)
		p.draws++
	}
}

// send lets a request come in.
func (p *troupe) send(w *browser, a ask) {
	p.t.Helper()
	if p.isNeat {
		conn := p.random.Intn(3)
		p.do(bytesOn(conn, request(a.method, a.target, a.body, a.fields...)), w)
		if p.model.lines[conn].data != "" || p.model.lines[conn].shut {
			p.t.Fatal("a neat request is not neat")
		}
		return
	}
	p.sendOddly(w, a)
}

// playOn is so many turns.
func (p *troupe) playOn(turns int) {
	p.t.Helper()
	p.drawSome()
	for range turns {
		switch p.random.Intn(24) {
		case 0:
			if p.random.Intn(2) == 0 {
				p.do(crash(p.random.Intn(400)-2), nil)
			}
		case 1:
			if p.random.Intn(3) == 0 {
				p.do(arm(p.random.Intn(8), p.random.Intn(400)-2), nil)
			}
		case 2, 3, 4, 5:
			p.drawSome()
		case 6:
			p.do(tick(p.random.Intn(20)-2), nil)
		case 7, 8, 9, 10, 11, 12, 13:
			if len(p.codes) > 0 || p.random.Intn(8) == 0 {
				p.send(nil, p.drawnCall())
				break
			}
			fallthrough
		default:
			w := oneOf(p.random, p.browsers...)
			p.send(w, p.drawnVisit(w))
		}
	}
}
