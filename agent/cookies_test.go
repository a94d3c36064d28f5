package agent_test

import (
	"fmt"
	"slices"
	"strings"
	"testing"
)

// told is an agent that has got these fields at that time; nothing waits.
func told(t *testing.T, now int, fields ...string) *bench {
	t.Helper()
	b := newBench(t)
	b.tell(now, fields...)
	return b
}

// tell visits a place and takes an answer with these fields.
func (b *bench) tell(now int, fields ...string) {
	b.t.Helper()
	b.visit(now, "/")
	b.stays(now, plainly(fields...))
}

// mustSend fails unless a request at that time has these cookies.
func (b *bench) mustSend(now int, cookies string) {
	b.t.Helper()
	b.goesTo(now, "/", cookies)
}

func TestNamesOfFields(t *testing.T) {
	for bits := range 1 << 9 {
		name, at := []byte("set-cookie"), 0
		for i, c := range name {
			if c != '-' {
				if bits>>at&1 == 1 {
					name[i] -= 'a' - 'A'
				}
				at++
			}
		}
		told(t, 1, string(name), set("sid", "x", -1)).mustHave(1, "sid", "x")
	}
	for _, name := range []string{"", "set-cooki", "set-cookies", "set_cookie", "cookie", "set-cookie2", " set-cookie", "set-cookie ", "set-coo\u212aie", "\u017fet-cookie", "set-coo\x4b\x00ie", "set\rcookie", "S\xc5T-COOKIE", "set-c\x0fokie"} {
		told(t, 1, name, set("sid", "x", -1)).mustHave(1)
	}
}

// TestWaysOfSettingCookies: what field.ReadSetCookie refuses is let go, and nothing else.
func TestWaysOfSettingCookies(t *testing.T) {
	good := set("sid", "x", 9)
	b := newBench(t)
	for _, value := range []string{"", "sid=x", "sid", "sid=x; Path=/", strings.ToLower(good), strings.Replace(good, "; Secure", "", 1), " " + good, good + " ", good + ";", set("", "x", 9), set("s d", "x", 9), set("sid", "x y", 9), set("sid", "x\"", 9), set("sid", "\xff", 9), "sid=x; Path=/; Max-Age=09; Secure; HttpOnly; SameSite=Lax", "sid=x; Path=/; Max-Age=-1; Secure; HttpOnly; SameSite=Lax", "sid=x; Path=/; Max-Age=9223372036854775808; Secure; HttpOnly; SameSite=Lax", good + ", " + good} {
		b.tell(1, "Set-Cookie", value)
		b.mustHave(1)
		b.tell(1, "Set-Cookie", set("a", "1", -1), "Set-Cookie", value, "Set-Cookie", set("b", "2", 0), "Set-Cookie", set("c", "3", 9))
		b.mustHave(1, "a", "1", "c", "3")
		b.tell(1, "Set-Cookie", set("c", "", 0), "Set-Cookie", value, "Set-Cookie", set("a", "", 0))
		b.mustHave(1)
	}
	changed(good, func(value string) {
		b := told(t, 1, "Set-Cookie", set("sid", "was", -1), "Set-Cookie", value)
		b.look(9, 10, 11)
	})
	for _, age := range []int{-1, 1, 9, 1<<63 - 1} {
		told(t, 1, "Set-Cookie", set("!#$%&'*+-.^_`|~", "!#$%&'()*+-./:<=>?@[]^_`{|}~", age)).mustSend(1, "!#$%&'*+-.^_`|~=!#$%&'()*+-./:<=>?@[]^_`{|}~")
	}
}

// TestAges: a cookie is sent up to one tick ahead of its end, and from its end on it is not.
func TestAges(t *testing.T) {
	for _, from := range []int{0, 1, 100, 1<<40 - 5} {
		for _, age := range []int{1, 2, 3, 9, 1 << 30, 1 << 61} {
			field := set("sid", "x", age)
			b := told(t, from, "Set-Cookie", field)
			b.mustHave(from, "sid", "x")
			b.mustHave(from+age-1, "sid", "x")
			b.mustHave(from + age)
			b.mustHave(from + age + 1)
			b.mustHave(1<<63 - 1)
			b.mustHave(from-1, "sid", "x")
			b.mustSend(from, "sid=x")
			b.mustSend(from+age-1, "sid=x")
			b.mustSend(from+age, "")
			b.mustHave(from + age - 1)
			told(t, from, "Set-Cookie", field).mustSend(from+age, "")
		}
		for _, age := range []int{-1, 1<<63 - 1} {
			b := told(t, from, "Set-Cookie", set("sid", "x", age))
			b.mustHave(1<<62, "sid", "x")
			b.mustSend(1<<62, "sid=x")
		}
	}
	b := told(t, 0, "Set-Cookie", set("sid", "x", 1<<63-1))
	b.mustHave(1<<63-2, "sid", "x")
	b.mustHave(1<<63 - 1)
	b.mustSend(1<<63-2, "sid=x")
	b.mustSend(1<<63-1, "")
	told(t, 1, "Set-Cookie", set("sid", "x", 1<<63-1)).mustSend(1<<63-1, "sid=x")
	told(t, 1<<63-1, "Set-Cookie", set("sid", "x", 1)).mustSend(1<<63-1, "sid=x")
	told(t, 5, "Set-Cookie", set("sid", "x", 0)).mustSend(5, "")
}

// TestSessionCookies last as long as the browser runs.
func TestSessionCookies(t *testing.T) {
	b := told(t, 3, "Set-Cookie", set("sid", "x", -1))
	for _, now := range []int{3, 4, 1 << 30, 1<<63 - 1, 0} {
		b.mustHave(now, "sid", "x")
		b.mustSend(now, "sid=x")
	}
}

// TestReplaced: a cookie of the name comes in the other's stead, with a value, an age and a time of its own.
func TestReplaced(t *testing.T) {
	long, short, always := set("sid", "long", 100), set("sid", "short", 5), set("sid", "always", -1)
	b := told(t, 10, "Set-Cookie", long)
	b.tell(20, "Set-Cookie", short)
	b.mustHave(24, "sid", "short")
	b.mustHave(25)
	b.mustSend(24, "sid=short")
	b.tell(24, "Set-Cookie", long)
	b.mustHave(123, "sid", "long")
	b.mustHave(124)
	b.tell(24, "Set-Cookie", always)
	b.mustHave(124, "sid", "always")
	b.tell(24, "Set-Cookie", short)
	b.mustHave(28, "sid", "short")
	b.mustHave(29)
	b.tell(28, "Set-Cookie", short)
	b.mustSend(32, "sid=short")
	b.mustSend(33, "")
	b.tell(33, "Set-Cookie", short)
	b.mustSend(37, "sid=short")
	for _, fields := range [][]string{{long, short}, {always, short}, {long, "sid=x", short, "y"}} {
		b := newBench(t)
		var list []string
		for _, field := range fields {
			list = append(list, "Set-Cookie", field)
		}
		b.tell(0, list...)
		b.mustHave(4, "sid", "short")
		b.mustHave(5)
	}
}

func TestTakenOut(t *testing.T) {
	b := told(t, 1, "Set-Cookie", set("a", "1", -1), "Set-Cookie", set("b", "2", 9), "Set-Cookie", set("c", "3", -1))
	b.tell(1, "Set-Cookie", set("b", "", 0))
	b.mustSend(1, "a=1; c=3")
	b.tell(1, "Set-Cookie", set("B", "", 0), "Set-Cookie", set("x", "1", 0), "Set-Cookie", set("A", "", 0))
	b.mustSend(1, "a=1; c=3")
	b.tell(1, "Set-Cookie", set("c", "9", 0), "Set-Cookie", set("c", "4", 5), "Set-Cookie", set("a", "7", 5), "Set-Cookie", set("a", "7", 0))
	b.mustSend(1, "c=4")
	b.mustSend(5, "c=4")
	b.mustSend(6, "")
	b.tell(7, "Set-Cookie", set("c", "", 0))
	b.mustHave(7)
}

// TestOrderOfCookies: they rise bytewise by their names alone.
func TestOrderOfCookies(t *testing.T) {
	names := []string{"!", "!a", "-", "0", "00", "A", "AB", "B", "a", "a!", "a-", "aA", "aa", "ab", "b", "~"}
	for turn := range names {
		var fields []string
		for i := range names {
			at := (turn*5 + i*7) % len(names)
			fields = append(fields, "Set-Cookie", set(names[at], fmt.Sprint("v", 9-at), -1))
		}
		b := told(t, 1, fields...)
		var want, text []string
		for at, name := range names {
			want = append(want, name, fmt.Sprint("v", 9-at))
			text = append(text, fmt.Sprint(name, "=v", 9-at))
		}
		b.mustHave(1, want...)
		b.mustSend(1, strings.Join(text, "; "))
	}
}

// TestFullJar: the seventeenth cookie is let go, as long as sixteen last.
func TestFullJar(t *testing.T) {
	for _, count := range []int{0, 1, 14, 15, 16, 17, 18, 40} {
		b := told(t, 1, setting(0, count, 10)...)
		kept := min(count, most)
		b.mustSend(1, sentOf(0, kept))
		b.mustSend(10, sentOf(0, kept))
		b = newBench(t)
		for i := range count {
			b.tell(1, setting(i, 1, -1)...)
			b.mustSend(1, sentOf(0, min(i+1, most)))
		}
	}
	b := told(t, 1, setting(0, most, -1)...)
	b.tell(1, "Set-Cookie", set("b", "early", -1), "Set-Cookie", set("z", "late", -1), "Set-Cookie", set("c100", "x", 1<<30))
	b.mustSend(1, sentOf(0, most))
}

// TestKnownInAFullJar: one of a name that is there is replaced or taken out, and then there is room.
func TestKnownInAFullJar(t *testing.T) {
	b := told(t, 1, setting(0, most, -1)...)
	b.tell(2, "Set-Cookie", set("c000", "new", 5), "Set-Cookie", set("c015", "last", -1))
	b.mustSend(2, "c000=new; "+sentOf(1, most-2)+"; c015=last")
	b.tell(2, "Set-Cookie", set("x", "1", -1), "Set-Cookie", set("c003", "", 0), "Set-Cookie", set("y", "2", -1), "Set-Cookie", set("z", "3", -1))
	b.mustSend(2, "c000=new; "+sentOf(1, 2)+"; "+sentOf(4, most-5)+"; c015=last; y=2")
	b.tell(6, "Set-Cookie", set("w", "4", -1))
	b.mustHave(6, b.jarTexts(6)...)
	b.mustSend(6, "c000=new; "+sentOf(1, 2)+"; "+sentOf(4, most-5)+"; c015=last; y=2")
	b.tell(7, "Set-Cookie", set("w", "4", -1))
	b.mustSend(7, sentOf(1, 2)+"; "+sentOf(4, most-5)+"; c015=last; w=4; y=2")
}

func (b *bench) jarTexts(now int) []string {
	var list []string
	for _, c := range b.agent.Jar(now) {
		list = append(list, c.Name, c.Value)
	}
	return list
}

// TestRoomOfThoseThatAreOver: a cookie that lasts no longer takes no room, and one of its name comes as one of any other.
func TestRoomOfThoseThatAreOver(t *testing.T) {
	for _, short := range []int{1, 3, 15, 16} {
		long := most - short
		fields := slices.Concat(setting(0, short, 5), setting(short, long, -1))
		full := func() *bench { return told(t, 0, fields...) }
		b := full()
		b.tell(4, setting(100, 20, -1)...)
		b.mustSend(4, sentOf(0, most))
		b = full()
		b.tell(5, setting(100, 20, -1)...)
		want := sentOf(100, short)
		if long > 0 {
			want = sentOf(short, long) + "; " + want
		}
		b.mustSend(5, want)
		b.tell(5, "Set-Cookie", set("c000", "again", -1))
		b.mustSend(5, want)
		b = full()
		b.tell(5, "Set-Cookie", set("c000", "again", -1))
		b.mustSend(5, strings.TrimSuffix("c000=again; "+sentOf(short, long), "; "))
		b = full()
		b.visit(0, "/")
		b.stays(5, plainly(setting(100, 20, -1)...)) // the time of the answer counts, not that of the request
		b.mustSend(5, want)
	}
}

// TestOfWhichAnswers: cookies are taken of every answer, whatever else is in it.
func TestOfWhichAnswers(t *testing.T) {
	for _, status := range []int{0, -1, 100, 200, 204, 301, 302, 303, 307, 308, 400, 401, 404, 500, 1 << 40} {
		b := newBench(t)
		b.visit(1, "/")
		b.stays(1, answer(status, "x", "Content-Type", "text/html", "Set-Cookie", set("sid", "x", -1)))
		b.mustSend(1, "sid=x")
	}
	b := newBench(t)
	b.visit(1, "/")
	b.isSentAway(1, sending("https://a/cb", "Set-Cookie", set("sid", "x", -1)), "https://a/cb")
	b.mustHave(1, "sid", "x")
	b.visit(1, "/")
	b.stays(1, showing(loginPage(), "Set-Cookie", set("sid", "", 0), "Set-Cookie", set("b", "y", -1)))
	b.mustHave(1, "b", "y")
	b.mustBeAt(loginPage())
}
