package agent_test

import (
	"fmt"
	"math"
	"math/rand"
	"reflect"
	"slices"
	"strconv"
	"strings"
	"testing"

	"usher/agent"
	"usher/api"
	"usher/intake"
)

const (
	most     = 16 // cookies of a jar
	hops     = 10 // redirects in a row
	maxBytes = 1 << 16
)

// pairs are names and values by turns.
func pairs(texts ...string) []api.Pair {
	var list []api.Pair
	for i := 0; i < len(texts); i += 2 {
		list = append(list, api.Pair{Name: texts[i], Value: texts[i+1]})
	}
	return list
}

// set is a Set-Cookie field's value.
func set(name, value string, age int) string {
	lasts := ""
	if age >= 0 {
		lasts = "; Max-Age=" + strconv.Itoa(age)
	}
	return name + "=" + value + "; Path=/" + lasts + "; Secure; HttpOnly; SameSite=Lax"
}

// setting are the fields of so many cookies, from that number on; all have one age.
func setting(from, count, age int) []string {
	var list []string
	for i := range count {
		list = append(list, "Set-Cookie", set(fmt.Sprintf("c%03d", from+i), "v", age))
	}
	return list
}

// sentOf is the cookie field's text of such cookies.
func sentOf(from, count int) string {
	var list []string
	for i := range count {
		list = append(list, fmt.Sprintf("c%03d=v", from+i))
	}
	return strings.Join(list, "; ")
}

// answer is one with these fields: names and values by turns.
func answer(status int, body string, fields ...string) api.Reply {
	return api.Reply{Status: status, Fields: pairs(fields...), Body: body}
}

// sending is an answer that sends the agent on.
func sending(to string, fields ...string) api.Reply {
	return answer(303, "", append([]string{"Location", to}, fields...)...)
}

// plainly is an answer that holds no page.
func plainly(fields ...string) api.Reply { return answer(200, "", fields...) }

// showing is an answer that holds a page.
func showing(p api.Page, fields ...string) api.Reply {
	return answer(200, htmlOf(p), append([]string{"Content-Type", "text/html; charset=utf-8"}, fields...)...)
}

var escapes = strings.NewReplacer("&", "&amp;", "<", "&lt;", ">", "&gt;", `"`, "&quot;", "'", "&#39;")

// htmlOf is a page's text.
func htmlOf(p api.Page) string {
	var b strings.Builder
	write := func(parts ...string) {
		for i, part := range parts {
			if i%2 == 1 {
				part = escapes.Replace(part)
			}
			b.WriteString(part)
		}
		b.WriteString("\n")
	}
	write("<!DOCTYPE html>\n<html lang=\"en\">\n<head>\n<meta charset=\"utf-8\">\n<title>", p.Title, "</title>\n</head>\n<body>\n<h1>", p.Title, "</h1>")
	for _, line := range p.Lines {
		write("<p>", line, "</p>")
	}
	for _, f := range p.Forms {
		write(`<form method="post" action="`, f.Action, `">`)
		for _, in := range f.Inputs {
			switch in.Kind {
			case api.InHidden:
				write(`<input type="hidden" name="`, in.Name, `" value="`, in.Value, `">`)
			case api.InText:
				write(`<p><label>`, in.Label, ` <input type="text" name="`, in.Name, `" value="`, in.Value, `"></label></p>`)
			case api.InSecret:
				write(`<p><label>`, in.Label, ` <input type="password" name="`, in.Name, `"></label></p>`)
			case api.InBox:
				write(`<p><label><input type="checkbox" name="`, in.Name, `" value="`, in.Value, `" checked> `, in.Label, `</label></p>`)
			}
		}
		write(`<p><button type="submit">`, f.Button, "</button></p>\n</form>")
	}
	write("</body>\n</html>")
	return b.String()
}

// onePage is a page with one form, to that place.
func onePage(action string, inputs ...api.Input) api.Page {
	return api.Page{Title: "T", Forms: []api.Form{{Action: action, Button: "Go", Inputs: inputs}}}
}

// loginPage is that of the chapter's examples.
func loginPage() api.Page {
	return onePage("/login", api.Input{Kind: api.InText, Name: "user", Label: "Name"}, api.Input{Kind: api.InHidden, Name: "n", Value: "1"})
}

// get is a GET of the agent; a cookie field that is empty is not there.
func get(target, cookie string) api.Request {
	q := api.Request{Method: "GET", Target: target, Minor: 1, Fields: pairs("host", "usher")}
	if cookie != "" {
		q.Fields = append(q.Fields, pairs("cookie", cookie)...)
	}
	return q
}

// post is a POST of the agent.
func post(target, cookie, body string) api.Request {
	q := get(target, cookie)
	q.Method, q.Body = "POST", body
	q.Fields = append(q.Fields, pairs("content-type", "application/x-www-form-urlencoded", "content-length", fmt.Sprint(len(body)))...)
	return q
}

// everyByte is the 256 bytes, rising.
func everyByte() string {
	b := make([]byte, 256)
	for i := range b {
		b[i] = byte(i)
	}
	return string(b)
}

// noise is size bytes out of those of from.
func noise(random *rand.Rand, from string, size int) string {
	b := make([]byte, size)
	for i := range b {
		b[i] = from[random.Intn(len(from))]
	}
	return string(b)
}

func oneOf[T any](random *rand.Rand, list ...T) T { return list[random.Intn(len(list))] }

// changed goes through the texts that are one byte away from s: another one, one more, one less; and its ends.
func changed(s string, look func(string)) {
	for at := range len(s) + 1 {
		for n := range 256 {
			b := string([]byte{byte(n)})
			look(s[:at] + b + s[at:])
			if at < len(s) {
				look(s[:at] + b + s[at+1:])
			}
		}
		look(s[:at])
		look(s[at:])
		if at < len(s) {
			look(s[:at] + s[at+1:])
		}
	}
}

// isSame takes lists without elements for one another, as nothing hangs on which they are.
func isSame(a, b api.Request) bool {
	if !slices.Equal(a.Fields, b.Fields) {
		return false
	}
	a.Fields, b.Fields = nil, nil
	return reflect.DeepEqual(a, b)
}

func isSamePage(a, b api.Page) bool {
	if a.Title != b.Title || !slices.Equal(a.Lines, b.Lines) {
		return false
	}
	return slices.EqualFunc(a.Forms, b.Forms, func(a, b api.Form) bool {
		return a.Action == b.Action && a.Button == b.Button && slices.Equal(a.Inputs, b.Inputs)
	})
}

// A bench is an agent with the model of it beside it, and a ledger of its cookies.
type bench struct {
	t      *testing.T
	agent  *agent.Agent
	model  model
	ledger ledger
}

func newBench(t *testing.T) *bench {
	t.Helper()
	b := &bench{t: t, agent: agent.New(), ledger: ledger{puts: map[string]put{}}}
	b.look(-1, 0, math.MaxInt)
	return b
}

// newBenchAt is one at a page, since the time 0; nothing waits.
func newBenchAt(t *testing.T, p api.Page) *bench {
	t.Helper()
	b := newBench(t)
	b.visit(0, "/")
	b.stays(0, showing(p))
	b.mustBeAt(p)
	return b
}

// visit makes a Visit, and fails unless the agent answers as the model does.
func (b *bench) visit(now int, target string) (api.Request, error) {
	b.t.Helper()
	want, wantErr := b.model.visit(now, target)
	got, err := b.agent.Visit(now, target)
	if !isSame(got, want) || err != wantErr {
		b.t.Fatalf("P23.2: Visit(%d, %+q)\nanswers %+q, %v\nwant    %+q, %v", now, target, fmt.Sprint(got), err, fmt.Sprint(want), wantErr)
	}
	b.asked(now, got, err)
	return got, err
}

// submit makes a Submit, and fails unless the agent answers as the model does.
func (b *bench) submit(now, form int, typed ...string) (api.Request, error) {
	b.t.Helper()
	want, wantErr := b.model.submit(now, form, pairs(typed...))
	got, err := b.agent.Submit(now, form, pairs(typed...))
	if !isSame(got, want) || err != wantErr {
		b.t.Fatalf("P23.3: Submit(%d, %d, %+q)\nanswers %+q, %v\nwant    %+q, %v", now, form, typed, fmt.Sprint(got), err, fmt.Sprint(want), wantErr)
	}
	b.asked(now, got, err)
	return got, err
}

// take makes a Take, and fails unless the agent answers as the model does.
func (b *bench) take(now int, r api.Reply) (api.Request, int, error) {
	b.t.Helper()
	want, wantKind, wantErr := b.model.take(now, r)
	got, kind, err := b.agent.Take(now, r)
	if !isSame(got, want) || kind != wantKind || err != wantErr {
		b.t.Fatalf("P23.4: Take(%d, %+q)\nanswers %+q, %d, %v\nwant    %+q, %d, %v", now, fmt.Sprint(r), fmt.Sprint(got), kind, err, fmt.Sprint(want), wantKind, wantErr)
	}
	if err != api.ErrLost {
		b.ledger.now = max(b.ledger.now, now)
		b.ledger.came(r, b.agent.Jar(now))
	}
	if kind == 1 {
		b.asked(now, got, err)
	}
	b.look(now)
	return got, kind, err
}

// asked looks at what must be so of every request.
func (b *bench) asked(now int, q api.Request, err error) {
	b.t.Helper()
	if err != nil {
		b.look(now)
		return
	}
	b.ledger.now = max(b.ledger.now, now)
	cookie := ""
	for _, f := range q.Fields {
		if f.Name == "cookie" {
			cookie = f.Value
		}
	}
	if want := b.ledger.field(); cookie != want {
		b.t.Fatalf("P23.8: at %d the cookies %q are sent, want %q", now, cookie, want)
	}
	if !isPlace(q.Target) {
		b.t.Fatalf("P23.7: a request goes to %q", q.Target)
	}
	mustBeRead(b.t, q)
	b.look(now)
}

// headBytes is how long the head of a request is as a text.
func headBytes(q api.Request) int {
	size := len(q.Method) + len(" ") + len(q.Target) + len(" HTTP/1.1\r\n") + len("\r\n")
	for _, f := range q.Fields {
		size += len(f.Name) + len(": ") + len(f.Value) + len("\r\n")
	}
	return size
}

// mustBeRead fails unless a request within the limits is written, and read as it was sent, in two pieces.
func mustBeRead(t *testing.T, q api.Request) {
	t.Helper()
	if headBytes(q) > maxBytes || len(q.Body) > maxBytes {
		return
	}
	text, err := intake.Write(q)
	if err != nil {
		t.Fatalf("P23.7: Write(%+q): %v", fmt.Sprint(q), err)
	}
	in, err := intake.New(maxBytes, maxBytes)
	if err != nil {
		t.Fatal(err)
	}
	in.Feed(text[:len(text)/2])
	in.Feed(text[len(text)/2:])
	if got, number := in.Next(); !isSame(got, q) || number != 1 || in.Left() != 0 {
		t.Fatalf("P23.7: of %+q is read %+q, %d, %d left", text, fmt.Sprint(got), number, in.Left())
	}
}

// look holds Page, Where and Jar against the model, twice: they change nothing.
func (b *bench) look(times ...int) {
	b.t.Helper()
	for range 2 {
		if p, there := b.agent.Page(); !isSamePage(p, b.model.page) || there != b.model.there {
			b.t.Fatalf("P23.5: Page() = %+q, %v, want %+q, %v", fmt.Sprint(p), there, fmt.Sprint(b.model.page), b.model.there)
		}
		if where := b.agent.Where(); where != b.model.where {
			b.t.Fatalf("P23.5: Where() = %+q, want %+q", where, b.model.where)
		}
		for _, now := range times {
			if got, want := b.agent.Jar(now), b.model.cookies(b.model.time(now)); !slices.Equal(got, want) {
				b.t.Fatalf("P23.6: Jar(%d) = %q, want %q", now, got, want)
			}
		}
	}
}

// What must be answered by what stands in the test itself, not in the model.

func (b *bench) must(what string, got api.Request, kind int, err error, want api.Request, wantKind int, wantErr error) {
	b.t.Helper()
	if !isSame(got, want) || kind != wantKind || err != wantErr {
		b.t.Fatalf("%s\nanswers %+q, %d, %v\nwant    %+q, %d, %v", what, fmt.Sprint(got), kind, err, fmt.Sprint(want), wantKind, wantErr)
	}
}

// goesTo fails unless a Visit is answered with a GET of the target, with these cookies.
func (b *bench) goesTo(now int, target, cookie string) {
	b.t.Helper()
	got, err := b.visit(now, target)
	b.must(fmt.Sprintf("P23.2: Visit(%d, %+q)", now, target), got, 0, err, get(target, cookie), 0, nil)
}

func (b *bench) refusesVisit(now int, target string) {
	b.t.Helper()
	got, err := b.visit(now, target)
	b.must(fmt.Sprintf("P23.2: Visit(%d, %+q)", now, target), got, 0, err, api.Request{}, 0, api.ErrText)
}

func (b *bench) sends(want api.Request, now, form int, typed ...string) {
	b.t.Helper()
	got, err := b.submit(now, form, typed...)
	b.must(fmt.Sprintf("P23.3: Submit(%d, %d, %+q)", now, form, typed), got, 0, err, want, 0, nil)
}

func (b *bench) refusesForm(want error, now, form int, typed ...string) {
	b.t.Helper()
	got, err := b.submit(now, form, typed...)
	b.must(fmt.Sprintf("P23.3: Submit(%d, %d, %+q)", now, form, typed), got, 0, err, api.Request{}, 0, want)
}

// follows fails unless a Take is answered with a GET of the target, with these cookies.
func (b *bench) follows(now int, r api.Reply, target, cookie string) {
	b.t.Helper()
	got, kind, err := b.take(now, r)
	b.must(fmt.Sprintf("P23.4: Take(%d, %+q)", now, fmt.Sprint(r)), got, kind, err, get(target, cookie), 1, nil)
	b.mustBeNowhere("")
}

func (b *bench) stays(now int, r api.Reply) {
	b.t.Helper()
	got, kind, err := b.take(now, r)
	b.must(fmt.Sprintf("P23.4: Take(%d, %+q)", now, fmt.Sprint(r)), got, kind, err, api.Request{}, 0, nil)
}

// isSentAway fails unless a Take is answered with 2, and Where is that from then on.
func (b *bench) isSentAway(now int, r api.Reply, where string) {
	b.t.Helper()
	got, kind, err := b.take(now, r)
	b.must(fmt.Sprintf("P23.4: Take(%d, %+q)", now, fmt.Sprint(r)), got, kind, err, api.Request{}, 2, nil)
	b.mustBeNowhere(where)
}

func (b *bench) refusesAnswer(want error, now int, r api.Reply) {
	b.t.Helper()
	got, kind, err := b.take(now, r)
	b.must(fmt.Sprintf("P23.4: Take(%d, %+q)", now, fmt.Sprint(r)), got, kind, err, api.Request{}, 0, want)
}

// waitsNot fails if a request waits: an answer to none changes nothing.
func (b *bench) waitsNot(now int) {
	b.t.Helper()
	b.refusesAnswer(api.ErrLost, now, sending("/elsewhere", "Set-Cookie", set("late", "v", -1)))
}

func (b *bench) mustBeAt(want api.Page) {
	b.t.Helper()
	if p, there := b.agent.Page(); !isSamePage(p, want) || !there {
		b.t.Fatalf("P23.5: Page() = %+q, %v, want %+q", fmt.Sprint(p), there, fmt.Sprint(want))
	}
	if where := b.agent.Where(); where != "" {
		b.t.Fatalf("P23.5: at a page Where() = %+q", where)
	}
}

// mustBeNowhere fails unless the agent is at no page, and Where is that.
func (b *bench) mustBeNowhere(want string) {
	b.t.Helper()
	if p, there := b.agent.Page(); !isSamePage(p, api.Page{}) || there {
		b.t.Fatalf("P23.5: Page() = %+q, %v, want none", fmt.Sprint(p), there)
	}
	if where := b.agent.Where(); where != want {
		b.t.Fatalf("P23.5: Where() = %+q, want %+q", where, want)
	}
}

// mustHave fails unless Jar is these names and values.
func (b *bench) mustHave(now int, cookies ...string) {
	b.t.Helper()
	b.look(now)
	if got := b.agent.Jar(now); !slices.Equal(got, pairs(cookies...)) {
		b.t.Fatalf("P23.6: Jar(%d) = %q, want %q", now, got, cookies)
	}
}
