package agent_test

import (
	"fmt"
	"strings"
	"testing"

	"usher/api"
)

func hidden(name, value string) api.Input {
	return api.Input{Kind: api.InHidden, Name: name, Value: value}
}

func line(name, value string) api.Input {
	return api.Input{Kind: api.InText, Name: name, Value: value, Label: "Say"}
}

func secret(name string) api.Input { return api.Input{Kind: api.InSecret, Name: name, Label: "Say"} }

func box(name, value string) api.Input {
	return api.Input{Kind: api.InBox, Name: name, Value: value, Label: "Tick"}
}

// manyForms is a page whose forms go to these addresses, each with a hidden number.
func manyForms(actions ...string) api.Page {
	p := api.Page{Title: "Many", Lines: []string{"one", "two"}}
	for i, action := range actions {
		p.Forms = append(p.Forms, api.Form{Action: action, Button: "Go", Inputs: []api.Input{hidden("number", fmt.Sprint(i))}})
	}
	return p
}

func TestNumbersOfForms(t *testing.T) {
	for count := range 5 {
		var actions []string
		for i := range count {
			actions = append(actions, fmt.Sprint("/to/", i))
		}
		b := newBenchAt(t, manyForms(actions...))
		for number := -2; number < count+3; number++ {
			if number < 0 || number >= count {
				b.refusesForm(api.ErrArg, 1, number)
				b.waitsNot(1)
			}
		}
		b.refusesForm(api.ErrArg, 1, -1<<63)
		b.refusesForm(api.ErrArg, 1, 1<<63-1)
		for number, action := range actions {
			b.sends(post(action, "", fmt.Sprint("number=", number)), 1, number)
			b.mustBeAt(manyForms(actions...))
		}
	}
}

// TestFormsElsewhere: a form whose address is no place is sent nowhere, and those beside it are not hurt.
func TestFormsElsewhere(t *testing.T) {
	for _, action := range []string{"", "login", "//evil", "/\\evil", "https://evil.example/", "/a b", "/\x7f", "/é", "?a=b", "/a\n", " /"} {
		b := newBenchAt(t, manyForms("/a", action, "/b"))
		b.refusesForm(api.ErrText, 1, 1)
		b.refusesForm(api.ErrText, 1, 1, "number", "5")
		b.refusesForm(api.ErrArg, 1, 3)
		b.waitsNot(1)
		b.sends(post("/b", "", "number=2"), 1, 2)
		b.refusesForm(api.ErrText, 1, 1)
		b.mustBeAt(manyForms("/a", action, "/b"))
		b.stays(1, plainly())
		b.refusesForm(api.ErrLost, 1, 1)
		b.refusesForm(api.ErrLost, 1, 3)
		b.refusesForm(api.ErrLost, 1, -1)
	}
	for n := range 256 {
		b := newBenchAt(t, manyForms("/"+string([]byte{byte(n)})))
		b.submit(1, 0)
	}
}

func TestTyped(t *testing.T) {
	p := onePage("/login", line("user", ""), secret("pass"), hidden("next", "/a?b=c&d"), box("grant:a", "yes"), box("grant:b", "yes"), line("who", "was"))
	b := newBenchAt(t, p)
	for _, c := range []struct {
		body  string
		typed []string
	}{
		{"user=&pass=&next=%2Fa%3Fb%3Dc%26d&grant%3Aa=yes&grant%3Ab=yes&who=was", nil},
		{"user=a+b&pass=%26%3D&next=%2Fa%3Fb%3Dc%26d&grant%3Aa=yes&grant%3Ab=yes&who=was", []string{"user", "a b", "pass", "&="}},
		{"user=z&pass=&next=%2Fa%3Fb%3Dc%26d&grant%3Aa=yes&grant%3Ab=yes&who=", []string{"user", "a", "who", "w", "user", "z", "who", ""}},
		{"user=&pass=&next=%2Fa%3Fb%3Dc%26d&grant%3Aa=yes&grant%3Ab=yes&who=was", []string{"next", "/evil", "other", "x", "", "y", "User", "z"}},
		{"user=&pass=&next=%2Fa%3Fb%3Dc%26d&grant%3Ab=yes&who=was", []string{"grant:a", "yes"}},
		{"user=&pass=&next=%2Fa%3Fb%3Dc%26d&grant%3Aa=yes&who=was", []string{"grant:b", "yes", "grant:a", "no"}},
		{"user=&pass=&next=%2Fa%3Fb%3Dc%26d&grant%3Aa=yes&grant%3Ab=yes&who=was", []string{"grant:a", "yes", "grant:a", "yes"}},
		{"user=%00%FF%C3%A9&pass=%0D%0A&next=%2Fa%3Fb%3Dc%26d&grant%3Aa=yes&grant%3Ab=yes&who=%2B", []string{"user", "\x00\xffé", "pass", "\r\n", "who", "+"}},
	} {
		b.sends(post("/login", "", c.body), 1, 0, c.typed...)
		b.mustBeAt(p)
	}
}

// TestBodies: the form's bytes are counted, in digits without a nought ahead; a form that sends nothing has no bytes.
func TestBodies(t *testing.T) {
	b := newBenchAt(t, onePage("/a"))
	b.sends(api.Request{Method: "POST", Target: "/a", Minor: 1, Fields: pairs("host", "usher", "content-type", "application/x-www-form-urlencoded", "content-length", "0")}, 1, 0, "user", "ann")
	b = newBenchAt(t, onePage("/a", box("b", "1")))
	b.sends(api.Request{Method: "POST", Target: "/a", Minor: 1, Fields: pairs("host", "usher", "content-type", "application/x-www-form-urlencoded", "content-length", "0")}, 1, 0, "b", "1")
	b = newBenchAt(t, onePage("/a", line("n", "")))
	for _, size := range []int{1, 2, 7, 8, 9, 10, 97, 98, 99, 998, 9997, 9998, maxBytes - 3, maxBytes - 2, maxBytes - 1} {
		typed := strings.Repeat("x", size)
		want := api.Request{Method: "POST", Target: "/a", Minor: 1, Fields: pairs("host", "usher", "content-type", "application/x-www-form-urlencoded", "content-length", fmt.Sprint(size+2)), Body: "n=" + typed}
		b.sends(want, 1, 0, "n", typed)
	}
	b.sends(post("/a", "", "n=%FF%FF%FF"), 1, 0, "n", "\xff\xff\xff")
}

// TestNamesOfInputs: a page's form may have any bytes in its names and values.
func TestNamesOfInputs(t *testing.T) {
	all := everyByte()
	p := onePage("/a", hidden(all, all), line(all+all, all), secret("s"), box("b", all))
	b := newBenchAt(t, p)
	b.submit(1, 0)
	b.submit(1, 0, all+all, all, "s", all)
	b.submit(1, 0, "b", all, "s", "x")
}

// TestFormWhileAnotherWaits: an answer is taken for the request that was made last.
func TestFormWhileAnotherWaits(t *testing.T) {
	b := newBenchAt(t, loginPage())
	b.sends(post("/login", "", "user=&n=1"), 1, 0)
	b.sends(post("/login", "", "user=ann&n=1"), 1, 0, "user", "ann")
	b.stays(1, showing(loginPage()))
	b.waitsNot(1)
	b.sends(post("/login", "", "user=&n=1"), 1, 0)
	b.follows(1, sending("/home"), "/home", "")
	b.refusesForm(api.ErrLost, 1, 0)
	b.stays(1, plainly())
}

// TestCookiesOfForms: the cookies stand between the host and the form's own fields.
func TestCookiesOfForms(t *testing.T) {
	b := newBench(t)
	b.goesTo(1, "/", "")
	b.stays(1, showing(loginPage(), "Set-Cookie", set("sid", "x", 5), "Set-Cookie", set("a", "", -1)))
	q := api.Request{Method: "POST", Target: "/login", Minor: 1, Fields: pairs("host", "usher", "cookie", "a=; sid=x", "content-type", "application/x-www-form-urlencoded", "content-length", "9"), Body: "user=&n=1"}
	b.sends(q, 5, 0)
	b.sends(post("/login", "a=", "user=&n=1"), 6, 0)
}
