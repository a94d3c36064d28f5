package agent_test

import (
	"testing"

	"usher/api"
	"usher/field"
)

// The rows of the chapter's examples.

func TestExamplesOfNothing(t *testing.T) {
	b := newBench(t)
	b.mustBeNowhere("")
	b.mustHave(0)
	b.refusesAnswer(api.ErrLost, 0, plainly())
	b.goesTo(1, "/login", "")
	for _, target := range []string{"login", "//x", "/a b", "/\\x"} {
		b.refusesVisit(1, target)
	}
}

func TestExamplesOfCookies(t *testing.T) {
	value, err := field.SetCookie(api.Cookie{Name: "sid", Value: "x", MaxAge: 9})
	if value != set("sid", "x", 9) || err != nil {
		t.Fatalf("SetCookie = %q, %v", value, err)
	}
	b := newBench(t)
	b.goesTo(1, "/", "")
	b.follows(1, answer(303, "", "Set-Cookie", value, "Location", "/home"), "/home", "sid=x")
	b.mustHave(9, "sid", "x")
	b.mustHave(10)
	b.mustHave(9, "sid", "x")
	b.stays(12, plainly())
	b.mustHave(9)
}

func TestExamplesOfAnswers(t *testing.T) {
	b := newBench(t)
	b.goesTo(1, "/", "")
	b.isSentAway(1, answer(302, "", "Location", "https://a.example/cb?code=1"), "https://a.example/cb?code=1")
	b.refusesAnswer(api.ErrLost, 1, plainly())
	b.goesTo(1, "/", "")
	b.stays(1, answer(303, ""))
}

func TestExamplesOfForms(t *testing.T) {
	b := newBenchAt(t, loginPage())
	b.sends(api.Request{Method: "POST", Target: "/login", Minor: 1, Fields: pairs("host", "usher", "content-type", "application/x-www-form-urlencoded", "content-length", "12"), Body: "user=a+b&n=1"}, 2, 0, "user", "a b")
	b.refusesForm(api.ErrArg, 2, 1)
	b.refusesForm(api.ErrArg, 2, -1)
}
