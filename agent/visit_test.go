package agent_test

import (
	"strings"
	"testing"

	"usher/agent"
	"usher/api"
)

// TestEachCallFirst makes each call of an agent ahead of any other.
func TestEachCallFirst(t *testing.T) {
	b := newBench(t)
	b.mustBeNowhere("")
	for _, now := range []int{-1, 0, 1, 1 << 40} {
		newBench(t).mustHave(now)
		newBench(t).waitsNot(now)
		newBench(t).refusesForm(api.ErrLost, now, 0)
		newBench(t).refusesForm(api.ErrLost, now, -1, "user", "ann")
		newBench(t).refusesVisit(now, "")
		newBench(t).goesTo(now, "/", "")
	}
	a := agent.New()
	if where := a.Where(); where != "" {
		t.Errorf("P23.1: Where() = %q", where)
	}
	if jar := agent.New().Jar(5); len(jar) != 0 {
		t.Errorf("P23.1: Jar = %q", jar)
	}
	if p, there := agent.New().Page(); there || !isSamePage(p, api.Page{}) {
		t.Errorf("P23.1: Page() = %+v, %v", p, there)
	}
}

// TestTwoAgents lets two of them go their ways by turns; neither sees anything of the other.
func TestTwoAgents(t *testing.T) {
	one, other := newBench(t), newBench(t)
	one.goesTo(50, "/", "")
	other.waitsNot(1)
	one.stays(50, showing(loginPage(), "Set-Cookie", set("sid", "x", 9)))
	other.mustBeNowhere("")
	other.mustHave(50)
	other.refusesForm(api.ErrLost, 1, 0)
	other.goesTo(1, "/a", "")
	other.stays(1, plainly("Set-Cookie", set("sid", "y", 9)))
	other.mustHave(9, "sid", "y")
	other.goesTo(2, "/", "sid=y")
	one.waitsNot(50)
	other.isSentAway(2, sending("https://a/cb", "Set-Cookie", set("sid", "", 0)), "https://a/cb")
	one.mustBeAt(loginPage())
	one.sends(post("/login", "sid=x", "user=&n=1"), 51, 0)
	for range hops {
		one.follows(51, sending("/a"), "/a", "sid=x")
	}
	other.goesTo(3, "/", "")
	other.follows(3, sending("/b"), "/b", "")
	one.refusesAnswer(api.ErrMany, 51, sending("/a"))
	other.stays(3, plainly())
}

// TestPlaces: what a place is, by its first bytes and by every byte.
func TestPlaces(t *testing.T) {
	b := newBench(t)
	for _, target := range []string{"/", "/a", "/a/b", "/a//b", "/a\\b", "/?", "/?a=b&c", "/#a", "/%zz", "/~!\"$'()*,;:@[]^`{|}", "/.", "/-/", "/?//", "/" + strings.Repeat("x", 1<<17)} {
		b.goesTo(1, target, "")
	}
	for _, target := range []string{"", " ", "a", "login", "//", "//x", "///", "/\\", "/\\x", "\\", "\\/", "?a", "#", "https://usher/", "http://usher", "usher/", " /", "/ ", "/a b", "/\t", "/\n", "/a\r\n", "/\x00", "/\x7f", "/é", "/\xff", "/a\x80", "*", "javascript:alert(1)"} {
		b.refusesVisit(1, target)
	}
}

// TestBytesOfPlaces puts every byte at each place of a target.
func TestBytesOfPlaces(t *testing.T) {
	b := newBench(t)
	for n := range 256 {
		char := string([]byte{byte(n)})
		for _, target := range []string{char, "/" + char, "/a" + char, "/a" + char + "b", "/a/" + char, char + "/a", char + "a"} {
			switch {
			case target[0] != '/' || n < 0x21 || n > 0x7e:
				b.refusesVisit(1, target)
			case target[1:] != "" && (target[1] == '/' || target[1] == '\\'):
				b.refusesVisit(1, target)
			default:
				b.goesTo(1, target, "")
			}
		}
		b.refusesVisit(1, "/a"+strings.Repeat("a", 1000)+"\x7f"+char)
	}
	changed("/a?b=c", func(target string) { b.visit(1, target) })
	changed("/", func(target string) { b.visit(1, target) })
}

// TestUntilTheAnswer: the page and Where stay until the answer is taken.
func TestUntilTheAnswer(t *testing.T) {
	b := newBenchAt(t, loginPage())
	for _, target := range []string{"/a", "/b", "//x", "/"} {
		b.visit(1, target)
		b.mustBeAt(loginPage())
	}
	b.sends(post("/login", "", "user=ann&n=1"), 1, 0, "user", "ann")
	b.mustBeAt(loginPage())
	b.sends(post("/login", "", "user=ann&n=1"), 1, 0, "user", "ann")
	b.isSentAway(1, sending("//x"), "//x")
	b.goesTo(1, "/a", "")
	b.mustBeNowhere("//x")
	b.refusesForm(api.ErrLost, 1, 0)
	b.refusesVisit(1, "")
	b.mustBeNowhere("//x")
	b.stays(1, plainly())
	b.mustBeNowhere("")
}

// TestVisitWhileAnotherWaits: the later request waits in the earlier one's stead, and one answer is all that is taken.
func TestVisitWhileAnotherWaits(t *testing.T) {
	b := newBenchAt(t, loginPage())
	b.goesTo(1, "/a", "")
	b.goesTo(1, "/b", "")
	b.sends(post("/login", "", "user=&n=1"), 1, 0)
	b.goesTo(1, "/c", "")
	b.stays(1, showing(onePage("/d")))
	b.mustBeAt(onePage("/d"))
	b.waitsNot(1)
	b.goesTo(1, "/a", "")
	b.follows(1, sending("/b"), "/b", "")
	b.goesTo(1, "/c", "")
	b.stays(1, plainly())
	b.waitsNot(1)
}

// TestRefusedVisitWhileOneWaits: the request that waited waits on.
func TestRefusedVisitWhileOneWaits(t *testing.T) {
	b := newBenchAt(t, loginPage())
	b.refusesVisit(1, "//x")
	b.waitsNot(1)
	b.goesTo(1, "/a", "")
	b.refusesVisit(1, "//x")
	b.refusesForm(api.ErrArg, 1, 1)
	b.stays(1, plainly("Set-Cookie", set("a", "1", -1)))
	b.mustHave(1, "a", "1")
	b.waitsNot(1)
}

// TestRefusedCallsDoNotCount: what was refused is no Visit from which redirects are counted anew.
func TestRefusedCallsDoNotCount(t *testing.T) {
	b := newBench(t)
	b.goesTo(1, "/", "")
	for range hops {
		b.follows(1, sending("/a"), "/a", "")
		b.refusesVisit(1, "")
		b.refusesForm(api.ErrLost, 1, 0)
	}
	b.refusesAnswer(api.ErrMany, 1, sending("/a"))
}

// TestLongestHead: the longest head that a server takes is one of the agent's.
func TestLongestHead(t *testing.T) {
	b := newBench(t)
	target := "/" + strings.Repeat("x", maxBytes-headBytes(get("/", "")))
	q, _ := b.visit(1, target)
	if headBytes(q) != maxBytes {
		t.Fatalf("the test's head has %d bytes", headBytes(q))
	}
	mustBeRead(t, q)
	b.goesTo(1, target+"x", "")
}
