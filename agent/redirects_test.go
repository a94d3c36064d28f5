package agent_test

import (
	"strings"
	"testing"

	"usher/api"
)

func TestStatuses(t *testing.T) {
	p := loginPage()
	for _, status := range []int{-302, 0, 200, 201, 300, 301, 304, 305, 306, 307, 308, 400, 404, 500, 602} {
		b := newBench(t)
		b.visit(1, "/")
		b.stays(1, answer(status, "", "Location", "/a"))
		b.mustBeNowhere("")
		b.waitsNot(1)
		b.visit(1, "/")
		b.stays(1, answer(status, htmlOf(p), "Location", "https://a/cb", "Content-Type", "text/html"))
		b.mustBeAt(p)
	}
	for _, status := range []int{302, 303} {
		b := newBench(t)
		b.visit(1, "/")
		b.follows(1, answer(status, "", "Location", "/a"), "/a", "")
		b.isSentAway(1, answer(status, "", "Location", "https://a/cb"), "https://a/cb")
		b.waitsNot(1)
	}
}

// TestLocations: one field sends the agent on; none, or two, do not, and then the answer is one like others.
func TestLocations(t *testing.T) {
	p := loginPage()
	for _, status := range []int{302, 303} {
		for _, name := range []string{"Location", "location", "LOCATION", "lOCATION"} {
			b := newBench(t)
			b.visit(1, "/")
			b.follows(1, answer(status, htmlOf(p), "Content-Type", "text/html", name, "/a", "Content-Location", "/b"), "/a", "")
		}
		for _, fields := range [][]string{{}, {"Location", "/a", "Location", "/a"}, {"Location", "", "location", ""}, {"Location", "/a", "X", "y", "LOCATION", "https://a/"}, {"Location ", "/a"}, {"Content-Location", "/a"}, {"Locatıon", "/a"}, {"", "/a"}} {
			b := newBenchAt(t, p)
			b.visit(1, "/")
			b.stays(1, answer(status, "", fields...))
			b.mustBeNowhere("")
			b.visit(1, "/")
			b.stays(1, answer(status, htmlOf(p), append(fields, "content-type", "text/html")...))
			b.mustBeAt(p)
			b.waitsNot(1)
		}
	}
}

// TestPlacesOfRedirects holds every byte of a Location; what is no place is where the agent is sent.
func TestPlacesOfRedirects(t *testing.T) {
	b := newBench(t)
	must := func(to string) {
		t.Helper()
		b.visit(1, "/")
		if isPlace(to) {
			b.follows(1, sending(to), to, "")
		} else {
			b.isSentAway(1, sending(to), to)
			b.waitsNot(1)
		}
	}
	for _, to := range []string{"", "/", "/a", "//", "//evil", "/\\evil", "a", "https://usher/", "https://a.example/cb?code=1", "/a b", " /", "/ ", "/?a#b", "/\x00", "javascript:", everyByte(), "/" + strings.Repeat("x", 1<<17), strings.Repeat("x", 1<<17)} {
		must(to)
	}
	changed("/a?b=c", must)
	for n := range 256 {
		must(string([]byte{byte(n)}))
		must("/" + string([]byte{byte(n)}))
	}
}

// TestWhatARedirectLeaves: the agent is at no page any more, wherever it is sent.
func TestWhatARedirectLeaves(t *testing.T) {
	b := newBenchAt(t, loginPage())
	b.visit(1, "/")
	b.follows(1, sending("/a"), "/a", "")
	b.refusesForm(api.ErrLost, 1, 0)
	b.stays(1, showing(loginPage()))
	b.mustBeAt(loginPage())
	b.visit(1, "/")
	b.isSentAway(1, sending("x"), "x")
	b.refusesForm(api.ErrLost, 1, 0)
	b.visit(1, "/")
	b.follows(1, sending("/a"), "/a", "") // Where is empty again
	b.isSentAway(1, sending(""), "")
	b.visit(1, "/")
	b.isSentAway(1, sending("y"), "y")
	b.visit(1, "/")
	b.stays(1, showing(loginPage()))
	b.mustBeAt(loginPage())
}

// TestCookiesOfRedirects: the next request has the cookies that have just come.
func TestCookiesOfRedirects(t *testing.T) {
	b := newBench(t)
	b.visit(1, "/")
	b.follows(1, sending("/a", "Set-Cookie", set("sid", "x", 3)), "/a", "sid=x")
	b.follows(2, sending("/b", "Set-Cookie", set("b", "y", -1)), "/b", "b=y; sid=x")
	b.follows(3, sending("/c"), "/c", "b=y; sid=x")
	b.follows(4, sending("/d"), "/d", "b=y")
	b.follows(4, sending("/e", "Set-Cookie", set("b", "", 0)), "/e", "")
}

// hop lets the agent follow so many redirects, with these cookies.
func (b *bench) hop(now, count int, cookies string) {
	b.t.Helper()
	for range count {
		b.follows(now, sending("/a"), "/a", cookies)
	}
}

// refusesHop fails unless one redirect more is too many.
func (b *bench) refusesHop(now int) {
	b.t.Helper()
	b.refusesAnswer(api.ErrMany, now, sending("/a"))
	b.mustBeNowhere("")
	b.waitsNot(now)
}

func TestManyRedirects(t *testing.T) {
	for count := range hops + 1 {
		b := newBench(t)
		b.visit(1, "/")
		b.hop(1, count, "")
		b.stays(1, showing(loginPage()))
		b.mustBeAt(loginPage())
		b.sends(post("/login", "", "user=&n=1"), 1, 0)
		b.hop(1, count, "")
		b.isSentAway(1, sending("https://a/cb"), "https://a/cb") // that is none to be followed
		b.visit(1, "/")
		b.hop(1, hops, "")
		b.refusesHop(1)
	}
}

// TestCountedAnew: a Visit and a Submit begin anew, also while a request waits; nothing else does.
func TestCountedAnew(t *testing.T) {
	b := newBench(t)
	b.visit(1, "/")
	for range 3 {
		b.hop(1, hops, "")
		b.visit(1, "/")
	}
	b.hop(1, hops, "")
	b.refusesHop(1)
	b.visit(1, "/")
	b.hop(1, hops, "")
	b.stays(1, showing(loginPage()))
	b.waitsNot(1)
	b.submit(1, 0)
	b.hop(1, 4, "")
	b.refusesVisit(1, "x")
	b.refusesForm(api.ErrLost, 1, 0)
	b.hop(1, hops-4, "")
	b.refusesHop(1)

	b = newBenchAt(t, loginPage())
	b.visit(1, "/")
	b.hop(1, 1, "")
	b.stays(1, showing(loginPage()))
	b.submit(1, 0)
	b.submit(1, 0)
	b.hop(1, hops, "")
	b.refusesHop(1)
}

// TestBehindTooMany: the cookies have been taken and the time has gone on; the agent is at no page, Where is empty, nothing waits.
func TestBehindTooMany(t *testing.T) {
	b := newBench(t)
	b.visit(1, "/")
	b.hop(1, hops, "")
	b.refusesAnswer(api.ErrMany, 7, answer(302, htmlOf(loginPage()), "Content-Type", "text/html", "Location", "/a", "Set-Cookie", set("k", "v", 5), "set-cookie", set("l", "", -1)))
	b.mustBeNowhere("")
	b.mustHave(0, "k", "v", "l", "")
	b.mustHave(11, "k", "v", "l", "")
	b.mustHave(12, "l", "")
	b.waitsNot(7)
	b.refusesForm(api.ErrLost, 7, 0)
	b.goesTo(2, "/", "k=v; l=")
	b.stays(6, plainly("Set-Cookie", set("m", "1", 5)))
	b.mustHave(11, "k", "v", "l", "", "m", "1")
	b.mustHave(12, "l", "")
	b.visit(1, "/")
	b.hop(8, hops, "k=v; l=; m=1")
	b.isSentAway(8, sending("//too"), "//too")
	b.visit(8, "/")
	b.hop(8, hops, "k=v; l=; m=1")
	b.refusesAnswer(api.ErrMany, 12, sending("/a", "Set-Cookie", set("l", "", 0)))
	b.mustHave(0)
}
