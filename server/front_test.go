package server_test

import (
	"strconv"
	"strings"
	"testing"

	"usher/api"
)

// homeText is home for ann, who has allowed app something, as it stands in an answer.
const homeText = `<!DOCTYPE html>
<html lang="en">
<head>
<meta charset="utf-8">
<title>Usher</title>
</head>
<body>
<h1>Usher</h1>
<p>You are logged in as ann.</p>
<p>app may use: offline_access read.</p>
<form method="post" action="/withdraw">
<input type="hidden" name="client_id" value="app">
<input type="hidden" name="ticket" value="TICKET">
<p><button type="submit">Withdraw</button></p>
</form>
<form method="post" action="/logout">
<p><button type="submit">Log out</button></p>
</form>
</body>
</html>
`

// TestHome: without a session, with one, with no consent, with one, with several, which stand by client, and behind a withdrawal.
func TestHome(t *testing.T) {
	b := newBench(t, config())
	b.mustKeep(strangers, 0, getting("/"))
	ann, bob := b.begin("ann", 1), b.begin("bob", 2)
	b.mustKeep(homeOf(ann, "ann"), 6, by(ann, getting("/")))
	b.allow(ann, 3, "offline_access read")
	b.mustKeep(homeOf(ann, "ann", "app", "offline_access read"), 6, by(ann, getting("/")))
	if got, _ := b.play(6, by(ann, getting("/"))); got.Status != 200 || got.Body != strings.ReplaceAll(homeText, "TICKET", ticketOf(ann, pairs("client_id", "app"))) {
		t.Errorf("P19.7: home is %+v", got)
	}
	b.mustKeep(homeOf(bob, "bob"), 6, by(bob, getting("/")))
	b.commit(consentRecord("ann", "web", 6, "read"), consentRecord("ann", oddName, 6, "'&'", "<b>"), consentRecord("bob", "web", 6, "read"))
	b.mustKeep(homeOf(ann, "ann", oddName, "'&' <b>", "app", "offline_access read", "web", "read"), 6, by(ann, getting("/")))
	b.mustKeep(homeOf(bob, "bob", "web", "read"), 6, by(bob, getting("/")))
	again := b.begin("ann", 4)
	b.mustKeep(homeOf(again, "ann", oddName, "'&' <b>", "app", "offline_access read", "web", "read"), 6, by(again, getting("/")))
	b.must(redirect("/"), 6, withdrawing(ann, "app"))
	b.mustKeep(homeOf(ann, "ann", oddName, "'&' <b>", "web", "read"), 6, by(ann, getting("/")))
	odd := b.begin(oddName, 5)
	b.mustKeep(homeOf(odd, oddName), 6, by(odd, getting("/")))
}

func consentRecord(user, client string, at int, scopes ...string) api.Record {
	return api.Record{Kind: api.RecConsent, User: user, Client: client, Scopes: scopes, At: at}
}

// TestHomeOfMany: of more than 64 consents, which another configuration's clients may have got, the first 64 are told, by client; and each of them can be taken back, so that the others come up.
func TestHomeOfMany(t *testing.T) {
	for _, count := range []int{63, 64, 65, 70} {
		b := newBench(t, config())
		sid := b.begin("ann", 1)
		var given []string
		for n := range count {
			client := "c" + strconv.Itoa(100+n)
			given = append(given, client, "read")
			b.commit(consentRecord("ann", client, 5, "read"))
		}
		for n := range count {
			shown := given[2*n : min(2*n+128, len(given))]
			b.mustKeep(homeOf(sid, "ann", shown...), 6, by(sid, getting("/")))
			b.must(redirect("/"), 6, withdrawing(sid, given[2*n]))
		}
		b.mustKeep(homeOf(sid, "ann"), 6, by(sid, getting("/")))
	}
}

// A place is what stands as `next` in a query or a form, and where it leads to.
type place struct{ next, to string }

// places: in the first the path is told as it is, in the others it is not.
func places() []place {
	list := []place{
		{"next=/", "/"}, {"next=%2F", "/"}, {"next=/a", "/a"}, {"next=%2Fauthorize%3Fclient_id%3Dapp%26a%3D%2520", "/authorize?client_id=app&a=%20"}, {"a=b&next=/a&c", "/a"}, {"next=&next=/a&next", "/a"}, {"next=/a//b\\", `/a//b\`},
		{"next=/!~%22%3C%3E%27%26", `/!~"<>'&`}, {"next=/a/..//b", "/a/..//b"}, {"next=/login?next=//c", "/login?next=//c"}, {"next=/.", "/."}, {"next=/" + strings.Repeat("a", 5000), "/" + strings.Repeat("a", 5000)},
		{"", "/"}, {"next", "/"}, {"next=", "/"}, {"Next=/a", "/"}, {"next%20=/a", "/"}, {"nex=/a", "/"},
		{"next=/a&next=/a", "/"}, {"next=/a&next=/b", "/"}, {"next=/a&b&next=x", "/"},
		{"next=a", "/"}, {"next=a/", "/"}, {"next=.", "/"}, {"next=%20/a", "/"}, {"next=%09/a", "/"}, {"next=%5C", "/"}, {"next=%5C/a", "/"}, {"next=?a", "/"}, {"next=%23", "/"},
		{"next=//", "/"}, {"next=//evil.example", "/"}, {"next=%2F%2Fevil.example", "/"}, {"next=///evil.example", "/"}, {"next=/%5C", "/"}, {"next=/%5Cevil.example", "/"}, {"next=/%5C/evil.example", "/"}, {"next=%5C%5Cevil.example", "/"},
		{"next=https://evil.example", "/"}, {"next=https:/evil", "/"}, {"next=javascript:alert(1)", "/"}, {"next=evil.example", "/"},
	}
	for b := range 256 {
		inside, atEnd := "/a"+string([]byte{byte(b)})+"c", "/"+string([]byte{byte(b)})
		next, short := "next=/a"+escaped(byte(b))+"c", "next=%2f"+escaped(byte(b))
		if b < 0x21 || b > 0x7E {
			inside, atEnd = "/", "/"
		}
		if b == '/' || b == '\\' {
			atEnd = "/"
		}
		list = append(list, place{next, inside}, place{short, atEnd})
	}
	return list
}

// TestThePlaceToGoTo: in the login form, behind a login, and in the form behind a wrong password.
func TestThePlaceToGoTo(t *testing.T) {
	b := newBench(t, config())
	for n, p := range places() {
		b.mustKeep(loginPage(p.to), 5, getting("/login?"+p.next))
		b.mustKeep(loginPage(p.to), 5, request("HEAD", "/login?"+p.next))
		b.mustKeep(denied(p.to), 5, sending("/login", "user=ann&pass=no&"+p.next))
		b.pushDraw(counted(n))
		b.must(entered(p.to, idOf(counted(n))), 5, sending("/login", p.next+"&user=ann&pass=pw"))
	}
	sid := idOf(counted(0))
	b.mustKeep(loginPage("/a"), 6, by(sid, getting("/login?next=/a")))
	for _, p := range places() { // home knows no place
		b.mustKeep(homeOf(sid, "ann"), 6, by(sid, getting("/?"+p.next)))
		b.mustKeep(strangers, 6, getting("/?"+p.next))
	}
}

// loginText is the login form for `/a"b`, as it stands in an answer.
const loginText = `<!DOCTYPE html>
<html lang="en">
<head>
<meta charset="utf-8">
<title>Log in</title>
</head>
<body>
<h1>Log in</h1>
<form method="post" action="/login">
<input type="hidden" name="next" value="/a&quot;b">
<p><label>Name <input type="text" name="user" value=""></label></p>
<p><label>Password <input type="password" name="pass"></label></p>
<p><button type="submit">Log in</button></p>
</form>
</body>
</html>
`

func TestTheLoginForm(t *testing.T) {
	b := newBench(t, config())
	got, err := b.play(0, getting(`/login?next=/a"b`))
	if err != nil || got.Status != 200 || got.Body != loginText {
		t.Errorf("P19.8: %+v, %v", got, err)
	}
	got, err = b.play(0, getting("/"))
	text := strings.ReplaceAll(strings.ReplaceAll(loginText, "/a&quot;b", "/"), "<title>Log in", "<title>Usher")
	text = strings.ReplaceAll(text, "<h1>Log in</h1>\n", "<h1>Usher</h1>\n<p>You are not logged in.</p>\n")
	if err != nil || got.Status != 200 || got.Body != text {
		t.Errorf("P19.7: %+v, %v", got, err)
	}
}

// TestLoginsParameters: the name and the password must be there just once, and are compared byte by byte.
func TestLoginsParameters(t *testing.T) {
	b := newBench(t, config())
	b.push(0)
	for _, body := range []string{
		"", "user=ann", "pass=pw", "user=ann&pass=", "user=&pass=pw", "user&pass", "user=ann&pass=pw&pass=pw", "user=ann&pass=pw&pass=no", "user=ann&user=ann&pass=pw", "user=ann&user=bob&pass=pw", "user=ann&user=ann", "pass=pw&pass=pw",
		"User=ann&pass=pw", "user=ann&Pass=pw", "username=ann&password=pw", "user%20=ann&pass=pw", "next=/a", "user=ann&next=/a",
	} {
		b.mustKeep(errorPage(400, "invalid_request"), 5, sending("/login", body))
	}
	for _, body := range []string{
		"user=ann&pass=no", "user=ann&pass=PW", "user=Ann&pass=pw", "user=ann+&pass=pw", "user=ann&pass=pw+", "user=ann&pass=wp", "user=carl&pass=pw", "user=app&pass=pw", "user=%00&pass=%00", "user=%FF&pass=%FF", "user=ann&pass=" + strings.Repeat("x", 4000),
	} {
		b.mustKeep(denied("/"), 5, sending("/login", body))
		b.mustKeep(denied("/a"), 5, sending("/login", body+"&next=/a"))
	}
	b.mustWrite(entered("/", id(0)), 5, sending("/login", "pass=&user&user=ann&pass=p%77&token=x"), api.Record{Kind: api.RecSession, ID: id(0), User: "ann", At: 5})
	b.push(1)
	b.mustWrite(entered("/", id(1)), 6, by(id(0), login(oddName, passwords[oddName])), api.Record{Kind: api.RecSession, ID: id(1), User: oddName, At: 6})
	b.mustKeep(homeOf(id(0), "ann"), 6, by(id(0), getting("/"))) // the session that was there lives on
}

// TestTheSessionsLifeIsTold in the cookie, as the configuration has it.
func TestTheSessionsLifeIsTold(t *testing.T) {
	for _, life := range []int{1, 86400, api.MaxLife} {
		c := config()
		c.SessionLife, c.TokenLife, c.CodeLife, c.RefreshLife = life, 2, 3, 4
		b := newBench(t, c)
		b.push(0)
		b.must(redirect("/", "Set-Cookie", "sid="+id(0)+"; Path=/; Max-Age="+strconv.Itoa(life)+"; Secure; HttpOnly; SameSite=Lax"), 5, login("ann", "pw"))
		b.must(homeOf(id(0), "ann"), 5+life-1, by(id(0), getting("/")))
		b.must(strangers, 5+life, by(id(0), getting("/")))
	}
}

// TestTheBrake: as many wrong passwords as the configuration has lock a user for its LockTime; Retry-After tells how long that still is. Others are not locked, and a new server knows nothing of it.
func TestTheBrake(t *testing.T) {
	b := newBench(t, braked(3, 100))
	b.push(0, 1, 2)
	for now := range 3 {
		b.must(denied("/a"), 10+now, login("ann", "no", "next", "/a"))
	}
	for now, wait := range map[int]int{12: 100, 13: 99, 100: 12, 111: 1, 0: 112, -5: 112} {
		b.mustKeep(locked(wait), now, login("ann", "pw", "next", "/a"))
		b.mustKeep(locked(wait), now, login("ann", "no"))
	}
	b.mustKeep(errorPage(400, "invalid_request"), 13, login("ann", ""))
	b.mustKeep(denied("/"), 13, login("carl", "no"))
	b.must(entered("/", id(0)), 13, login("bob", "wp"))
	for range 5 {
		b.must(denied("/"), 13, login("carl", "no"))
	}
	if !b.boot() {
		t.Fatal("a test's disk is dead")
	}
	b.must(entered("/", id(1)), 13, login("ann", "pw"))
	for now := range 3 {
		b.must(denied("/"), 20+now, login("ann", "no"))
	}
	b.must(locked(1), 121, login("ann", "pw"))
	b.must(denied("/"), 122, login("ann", "no"))
	b.must(denied("/"), 123, login("ann", "no"))
	b.must(entered("/b", id(2)), 124, login("ann", "pw", "next", "/b"))
	b.must(denied("/"), 124, login("ann", "no"))
	b.must(denied("/"), 124, login("ann", "no"))
}

// lockedText is what a locked user sees.
const lockedText = `<!DOCTYPE html>
<html lang="en">
<head>
<meta charset="utf-8">
<title>Log in</title>
</head>
<body>
<h1>Log in</h1>
<p>Too many wrong passwords. Try again later.</p>
</body>
</html>
`

// TestALongBrake: the longest, in decimal digits; and none, if the configuration has none.
func TestALongBrake(t *testing.T) {
	b := newBench(t, braked(1, api.MaxLife))
	b.must(denied("/"), 7, login("ann", "no"))
	got, err := b.play(8, login("ann", "pw"))
	if err != nil || got.Status != 429 || got.Body != lockedText || len(got.Fields) != 5 || got.Fields[4] != (api.Pair{Name: "Retry-After", Value: "1073741823"}) {
		t.Errorf("P19.9: %+v, %v", got, err)
	}
	for _, c := range []api.Config{braked(0, 10), braked(1, 0), config()} {
		b := newBench(t, c)
		for range 5 {
			b.must(denied("/"), 7, login("ann", "no"))
		}
		b.push(0)
		b.must(entered("/", id(0)), 7, login("ann", "pw"))
	}
}

// TestLogout: whether there is a session or not, the cookie is taken away; only one that lives is ended, and no other.
func TestLogout(t *testing.T) {
	b := newBench(t, config())
	b.mustKeep(left, 0, logout())
	ann, bob := b.begin("ann", 1), b.begin("bob", 2)
	other := b.begin("ann", 3)
	b.mustKeep(left, 6, logout())
	b.mustKeep(left, 6, sending("/logout", "sid="+ann))
	b.mustKeep(left, 6, by(id(9), logout()))
	b.mustKeep(left, 1005, by(ann, logout()))
	b.mustWrite(left, 6, by(ann, logout()), api.Record{Kind: api.RecEnded, ID: ann})
	b.mustKeep(left, 6, by(ann, logout()))
	b.mustKeep(strangers, 6, by(ann, getting("/")))
	b.mustKeep(homeOf(other, "ann"), 6, by(other, getting("/")))
	b.mustWrite(left, 1004, by(bob, sending("/logout", "next=/a&user=ann&a=b")), api.Record{Kind: api.RecEnded, ID: bob})
	b.mustWrite(left, -1, by(other, logout()), api.Record{Kind: api.RecEnded, ID: other})
}
