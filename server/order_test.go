package server_test

import (
	"slices"
	"strings"
	"testing"

	"usher/api"
	"usher/server"
)

// invalid is 400 or 415, as the path tells it: an object on the three paths of the back, else a page.
func invalid(path string, status int) api.Reply {
	switch path {
	case "/token", "/introspect", "/revoke":
		return api.Reply{Status: status, Fields: pairs("Content-Type", "application/json", "Cache-Control", "no-store", "Pragma", "no-cache"), Body: `{"error":"invalid_request"}`}
	}
	return errorPage(status, "invalid_request")
}

// tangled is requests to every path and to two that are none, with any number of faults at once.
func tangled() []api.Request {
	var list []api.Request
	for _, path := range append(paths(), "/nothing", "/token/") {
		for _, method := range []string{"GET", "HEAD", "POST", "PUT", "post"} {
			for _, fields := range [][]string{{"content-type", formType}, nil, {"content-type", "text/plain"}, {"content-type", formType, "content-type", formType}} {
				for _, query := range []string{"", "?a=b", "?a=%", "?" + strings.Repeat("&a", 33)} {
					for _, body := range []string{"", "a=b", "a=%", strings.Repeat("a&", 33)} {
						q := request(method, path+query, fields...)
						q.Body = body
						list = append(list, q)
					}
				}
			}
		}
	}
	return list
}

// firstFault is the step that applies to a request of tangled, by its number, and the answer, unless it is the last one.
func firstFault(q api.Request) (int, api.Reply) {
	path, query, _ := strings.Cut(q.Target, "?")
	methods := server.Allow(path)
	isPost := q.Method == "POST"
	isBroken := func(text string) bool { return text != "" && text != "a=b" }
	switch {
	case methods == "":
		return 1, errorPage(404, "Not Found")
	case !slices.Contains(strings.Split(methods, ", "), q.Method):
		return 2, errorPage(405, "Method Not Allowed", "Allow", methods)
	case isPost && (len(q.Fields) != 2 || q.Fields[1].Value != formType):
		return 3, invalid(path, 415)
	case isPost && isBroken(q.Body), !isPost && isBroken(query):
		return 4, invalid(path, 400)
	}
	return 5, api.Reply{}
}

// TestTheFirstFaultDecides: each of the five steps, wherever it applies alone and wherever later ones apply too.
func TestTheFirstFaultDecides(t *testing.T) {
	b := newBench(t, config())
	var met [6]int
	for _, q := range tangled() {
		step, want := firstFault(q)
		met[step]++
		if step < 5 {
			b.mustKeep(want, 0, q)
		} else if got, err := b.play(0, q); err != nil || got.Status == 404 || got.Status == 405 || got.Status == 415 {
			t.Errorf("P19.2: %+v answers %+v, %v", q, got, err)
		}
	}
	for step, count := range met {
		if step > 0 && count < 100 {
			t.Errorf("%v: too few to tell", met)
		}
	}
}

// TestContentType: just one field, in whatever case of its name, of the one kind, in whatever case of its letters and with whatever parameters.
func TestContentType(t *testing.T) {
	b := newBench(t, config())
	for _, path := range paths() {
		if path == "/" || path == "/authorize" {
			continue
		}
		served, err := b.play(0, sending(path, ""))
		if err != nil || served.Status == 415 {
			t.Fatalf("P19.2: a form to %s answers %+v, %v", path, served, err)
		}
		for _, fields := range [][]string{
			{"Content-Type", formType}, {"CONTENT-TYPE", formType}, {"cOnTeNt-TyPe", formType},
			{"content-type", "Application/X-WWW-Form-Urlencoded"}, {"content-type", "APPLICATION/X-WWW-FORM-URLENCODED"},
			{"content-type", formType + "; charset=utf-8"}, {"content-type", formType + ";charset=\"utf-8\""}, {"content-type", formType + ";"}, {"content-type", formType + " ; a=b;; c=\"\\\"\""},
			{"content-type", formType, "x-content-type", "text/plain"}, {"accept", "text/html", "content-type", formType, "content-type ", "text/plain", "content_type", "x"},
		} {
			b.mustKeep(served, 0, request("POST", path, fields...))
		}
		for _, fields := range [][]string{
			nil, {"content-type", ""}, {"content-type", "text/plain"}, {"content-type", "multipart/form-data"}, {"content-type", "application/json"}, {"content-type", "application/x-www-form-urlencode"}, {"content-type", formType + "x"}, {"content-type", "x" + formType},
			{"content-type", " " + formType}, {"content-type", formType + " "}, {"content-type", formType + "; charset"}, {"content-type", formType + "; charset=\""}, {"content-type", formType + ", text/plain"}, {"content-type", "application"}, {"content-type", "application/"}, {"content-type", "/x-www-form-urlencoded"}, {"content-type", "*/*"},
			{"content-type", formType, "content-type", formType}, {"content-type", formType, "Content-Type", formType}, {"Content-Type", formType, "host", "y", "CONTENT-TYPE", ""}, {"content-type", "text/plain", "content-type", formType}, {"content-type", formType, "content-type", "x", "content-type", formType},
			{"content_type", formType}, {"content-type ", formType}, {"type", formType}, {"", formType}, {formType, "content-type"},
		} {
			q := request("POST", path, fields...)
			b.mustKeep(invalid(path, 415), 0, q)
			q.Body = "%" // which would be refused behind it
			b.mustKeep(invalid(path, 415), 0, q)
		}
	}
}

// TestNobodyAsksForAGetsType: neither of a GET nor of a HEAD.
func TestNobodyAsksForAGetsType(t *testing.T) {
	b := newBench(t, config())
	for _, fields := range [][]string{nil, {"content-type", "text/plain"}, {"content-type", "broken"}, {"content-type", formType, "content-type", formType}} {
		b.must(strangers, 0, getting("/", fields...))
		b.must(strangers, 0, request("HEAD", "/", fields...))
		b.must(loginPage("/"), 0, getting("/login", fields...))
		b.must(errorPage(400, "invalid_request"), 0, getting("/authorize", fields...))
	}
}

// broken are texts that no form has; the last one has too many pieces.
func broken() []string {
	return []string{"%", "a=%", "a=%4", "a=%zz", "%G0=a", "a b", " ", "a=b&c= ", "a=\x00", "a\x7f", "a=\xff", "\n", "a=b\r\n", "é", strings.Repeat("a=b&", 32) + "c", strings.Repeat("a&", 33)}
}

// read are texts that can be read, though they name nothing; the last one has as many pieces as may be.
func read() []string {
	return []string{"", "&", "=", "a", "a=", "=a", "&&a&&", "a=%00", "%FF=%ff", "a+b=+", "\"<>'", strings.Repeat("a=b&&", 31) + "c&&&"}
}

// TestParametersThatCannotBeRead: the body of a POST, the query of the others; and the other one of the two is not looked at.
func TestParametersThatCannotBeRead(t *testing.T) {
	b := newBench(t, config())
	sid := b.begin("ann", 0)
	for _, path := range paths() {
		for _, method := range strings.Split(methodsOf[path], ", ") {
			made := func(seen, unseen string) api.Request {
				q := by(sid, request(method, path, "content-type", formType))
				if method == "POST" {
					q.Target, q.Body = q.Target+"?"+unseen, seen
				} else {
					q.Target, q.Body = q.Target+"?"+seen, unseen
				}
				return q
			}
			for _, text := range broken() {
				for _, other := range []string{"", "a=b", "%", "user=ann&pass=pw"} {
					b.mustKeep(invalid(path, 400), 6, made(text, other))
				}
			}
			if path == "/logout" {
				continue // which would end the session
			}
			for _, text := range read() {
				first, err := b.play(6, made(text, ""))
				if err != nil {
					t.Fatalf("P19.2: %s %s answers %v", method, path, err)
				}
				if path == "/authorize" {
					continue // which tells its whole target
				}
				for _, other := range append(broken(), read()...) {
					b.mustKeep(first, 6, made(text, other))
				}
			}
		}
	}
}

// TestAPostsQuerySaysNothing: what stands there is not asked for, however good it is.
func TestAPostsQuerySaysNothing(t *testing.T) {
	b := newBench(t, config())
	b.push(0, 1, 2)
	b.mustKeep(errorPage(400, "invalid_request"), 5, sending("/login?user=ann&pass=pw", ""))
	b.must(denied("/"), 5, sending("/login?user=ann&pass=pw&next=/a", "user=ann&pass=no"))
	b.must(entered("/b", id(0)), 5, sending("/login?user=bob&pass=no&next=/a", "user=ann&pass=pw&next=/b"))
	b.mustKeep(challenged, 5, sending("/token?grant_type=refresh_token&client_id=app", ""))
	b.mustKeep(errorObject(400, "invalid_request"), 5, sending("/revoke?token=x", "client_id=app"))
	q := getting("/login?next=/a")
	q.Body = "next=/b"
	b.must(loginPage("/a"), 5, q)
	q.Target = "/login"
	b.must(loginPage("/"), 5, q)
	q = by(id(0), getting("/authorize"))
	q.Body = formOf(question("read"))
	b.mustKeep(errorPage(400, "invalid_request"), 5, q)
}
