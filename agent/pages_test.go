package agent_test

import (
	"strings"
	"testing"

	"usher/api"
)

// mustShow fails unless an answer leads to its page, or, where it holds none, to no page.
func mustShow(t *testing.T, r api.Reply, shows bool) {
	t.Helper()
	b := newBenchAt(t, onePage("/was"))
	b.visit(1, "/")
	b.stays(1, r)
	b.waitsNot(1)
	if !shows {
		b.mustBeNowhere("")
		b.refusesForm(api.ErrLost, 1, 0)
		return
	}
	p, _ := pageIn(r.Body)
	b.mustBeAt(p)
}

func TestMediaTypes(t *testing.T) {
	body := htmlOf(loginPage())
	for _, media := range []string{"text/html", "text/html; charset=utf-8", "TEXT/HTML", "Text/Html ;\tcharset=\"a;\\\"b\"; x=y", "text/html;", "text/html;;", "tExT/hTmL"} {
		for _, name := range []string{"Content-Type", "content-type", "CONTENT-TYPE"} {
			mustShow(t, answer(200, body, name, media), true)
			mustShow(t, answer(200, body, "X", "text/plain", name, media, "Content-Typ", "y", "Content-Length", "3"), true)
		}
	}
	for _, media := range []string{"", "text/plain", "text/htm", "text/htmls", "text/xhtml", "application/xhtml+xml", "texthtml", "text/", "/html", "text", "html", " text/html", "text/html ", "text /html", "text/html, text/html", "text/html x", "text/html; x", "text/html; x=\"", "text/html\x00", "*/*", "text/*", "te\u212at/html", "application/json; x=text/html"} {
		mustShow(t, answer(200, body, "Content-Type", media), false)
	}
	for _, fields := range [][]string{{}, {"Content-Type", "text/html", "Content-Type", "text/html"}, {"Content-Type", "text/html", "content-type", "text/plain"}, {"Content-Type", "", "content-type", "text/html"}, {"Content-Types", "text/html"}, {"ContentType", "text/html"}, {"Accept", "text/html"}, {"", "text/html"}} {
		mustShow(t, answer(200, body, fields...), false)
	}
	changed("text/html;a=b", func(media string) {
		b := newBench(t)
		b.visit(1, "/")
		b.take(1, answer(200, body, "Content-Type", media))
	})
}

// TestBodiesOfPages: a body is a page's text as a whole, or none.
func TestBodiesOfPages(t *testing.T) {
	all := everyByte()
	full := api.Page{Title: all, Lines: []string{"", all, "a\nb", "<p>&amp;"}, Forms: []api.Form{{}, {Action: all, Button: all, Inputs: []api.Input{hidden(all, all), {Kind: api.InText, Name: all, Value: all, Label: all}, {Kind: api.InSecret, Name: all, Label: all}, {Kind: api.InBox, Name: all, Value: all, Label: all}, hidden("a", ""), {Kind: api.InText, Name: "b"}, {Kind: api.InSecret, Name: "c"}, {Kind: api.InBox, Name: "d"}}}, {Action: "/x"}}}
	for _, p := range []api.Page{{}, {Title: "Hi"}, {Lines: []string{""}}, loginPage(), full} {
		for _, status := range []int{200, 404, 0, 303} {
			mustShow(t, answer(status, htmlOf(p), "Content-Type", "text/html"), true)
		}
		body := htmlOf(p)
		for _, wrong := range []string{"", " " + body, body + " ", body + "\n", body[1:], body[:len(body)-1], body + body, strings.ToUpper(body), strings.ReplaceAll(body, "\n", "\r\n"), strings.Replace(body, "</h1>", "!</h1>", 1)} {
			mustShow(t, answer(200, wrong, "Content-Type", "text/html"), false)
		}
	}
	mustShow(t, answer(200, htmlOf(onePage("/", hidden("", "x"))), "Content-Type", "text/html"), false)
}

// TestBodiesOneByteAway holds every text one byte away from a page's.
func TestBodiesOneByteAway(t *testing.T) {
	b := newBench(t)
	p := onePage("/a", box("n", "1"))
	p.Lines = []string{"x"}
	body := htmlOf(p)
	for at := range len(body) {
		for _, char := range []string{"", "a", "<", ">", "&", "\"", "'", "\n", " ", "/", "\x00", "\xff"} {
			for _, text := range []string{body[:at] + char + body[at:], body[:at] + char + body[at+1:]} {
				b.visit(1, "/")
				b.take(1, answer(200, text, "Content-Type", "text/html"))
			}
		}
	}
}

// TestNextPages: each page comes in the stead of the one ahead of it.
func TestNextPages(t *testing.T) {
	b := newBench(t)
	pages := []api.Page{loginPage(), {Title: "empty"}, manyForms("/a", "/b"), onePage("/c", secret("s")), {}}
	for _, one := range pages {
		for _, other := range pages {
			b.visit(1, "/")
			b.stays(1, showing(one))
			b.mustBeAt(one)
			b.visit(1, "/")
			b.stays(1, showing(other))
			b.mustBeAt(other)
			b.visit(1, "/")
			b.stays(1, plainly())
			b.mustBeNowhere("")
		}
	}
}
