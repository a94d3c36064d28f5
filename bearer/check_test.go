package bearer_test

import (
	"math"
	"strings"
	"testing"

	"usher/api"
	"usher/bearer"
	"usher/field"
)

func TestLives(t *testing.T) {
	for _, life := range []int{-1, -2, 1<<30 + 1, 1 << 31, math.MinInt, math.MaxInt} {
		if g, err := bearer.New(life); g != nil || err != api.ErrArg {
			t.Errorf("P22.2: New(%d) = %v, %v, want ErrArg", life, g, err)
		}
	}
	for _, life := range []int{0, 1, 2, 1<<30 - 1, 1 << 30} {
		b := newBench(t, life)
		b.must(worthless, true, 5, bearing("abc"), nil, nil)
		b.tell(5, "abc")
		if life == 0 {
			b.mustHold(5, 0)
			continue
		}
		b.mustHold(0, 1)
		b.mustHold(5+life-1, 1)
		b.mustHold(5+life, 0)
	}
}

// TestGuardsAreApart tells one guard of what another one knows, or has forgotten.
func TestGuardsAreApart(t *testing.T) {
	one, other := newBench(t, 10), newBench(t, 20)
	one.tell(5, "abc")
	other.mustHold(5, 0)
	other.mustNotKnow(5, "abc")
	other.must(letIn("ann", "web", "a"), true, 5, bearing("abc"), nil, anns(100, "a"))
	one.must(letIn("", ""), false, 5, bearing("abc"), nil, nil)
	one.forget("abc")
	other.must(letIn("ann", "web", "a"), false, 24, bearing("abc"), nil, nil)
	one.mustNotKnow(5, "abc")
	for _, token := range tokens(0, most+5) {
		one.tell(6, token)
	}
	other.mustHold(6, 1)
}

// TestRequestsWithoutAToken: nobody is asked, whatever is remembered; the scopes that are needed make no difference.
func TestRequestsWithoutAToken(t *testing.T) {
	for _, life := range []int{0, 10} {
		b := newBench(t, life)
		for round := range 2 {
			if round == 1 {
				b.tell(5, "abc")
			}
			for _, need := range [][]string{nil, {"a"}, {"x y"}} {
				for _, q := range []api.Request{{}, get("/r"), authorized("Basic YTpi"), authorized("Bearers abc"), posted("access_token="), get("/r?access_token")} {
					b.must(unshown, false, 5, q, need, anns(100, "a"))
				}
				for _, q := range []api.Request{authorized("Bearer"), bearing("="), bearing("abc "), get("/r?access_token=!"), get("/r?%zz", "Authorization", "Bearer abc"), posted("%"), get("/r?" + repeated("x", 33, "&"))} {
					b.must(unread, false, 5, q, need, anns(100, "a"))
				}
				for _, q := range []api.Request{get("/r", "Authorization", "Bearer abc", "authorization", "Bearer abc"), get("/r?access_token=abc", "Authorization", "Bearer abc"), get("/r?access_token=abc&access_token=abc")} {
					b.must(unread, false, 5, q, need, anns(100, "a"))
				}
			}
		}
	}
}

// TestAnyWayOfShowing: what is remembered of a token hangs on its text, not on how it was shown.
func TestAnyWayOfShowing(t *testing.T) {
	ways := []api.Request{bearing("a+b"), get("/r?access_token=a%2Bb"), posted("access_token=a%2bb"), authorized("bearer  a+b")}
	for i, first := range ways {
		b := newBench(t, 10)
		b.must(letIn("ann", "web", "a"), true, 5, first, nil, anns(100, "a"))
		for _, other := range ways {
			b.must(letIn("ann", "web", "a"), false, 6+i, other, []string{"a"}, nil)
		}
		for _, other := range []string{"a+b=", "A+b", "a+", "+b", "a"} {
			b.mustNotKnow(6, other)
		}
	}
}

// TestWhatAskIsTold is asked once, about the very text that is shown.
func TestWhatAskIsTold(t *testing.T) {
	g, err := bearer.New(10)
	if err != nil {
		t.Fatal(err)
	}
	for _, token := range []string{"a", "a=", "a==", "-._~+/", strings.Repeat("x", 10000), "abc"} {
		for round := range 3 {
			var asked []string
			g.Check(5+10*round, bearing(token), []string{"none"}, func(token string) []api.Member {
				asked = append(asked, token)
				return active()
			})
			if len(asked) != 1 || asked[0] != token {
				t.Errorf("P22.3: ask is called with %q, want once with %q", asked, token)
			}
			g.Check(5+10*round, bearing(token), nil, func(token string) []api.Member {
				t.Errorf("P22.3: ask is called about %q, of which something is remembered", token)
				return nil
			})
		}
	}
}

// TestNoAsk: an ask that is nil answers no members, but is not missed where nobody is asked. Nor does a call panic where ask does.
func TestNoAsk(t *testing.T) {
	for name, ask := range map[string]func(string) []api.Member{
		"nil":           nil,
		"one of none":   func(string) []api.Member { return nil },
		"one of panic":  func(string) []api.Member { panic("a test's ask") },
		"one of errors": func(string) []api.Member { var list []api.Member; return list[1:1:2] },
	} {
		b := newBench(t, 10)
		if got := b.guard.Check(5, bearing("abc"), nil, ask); !isSame(got, worthless) {
			t.Errorf("P22.3: with the ask %s Check = %+v", name, got)
		}
		if got := b.guard.Check(5, get("/r"), nil, ask); !isSame(got, unshown) {
			t.Errorf("P22.3: with the ask %s Check = %+v", name, got)
		}
		if got := b.guard.Check(5, bearing("!"), nil, ask); !isSame(got, unread) {
			t.Errorf("P22.3: with the ask %s Check = %+v", name, got)
		}
		b.mustHold(5, 0)
		b.tell(5, "abc")
		if got := b.guard.Check(14, bearing("abc"), nil, ask); !isSame(got, letIn("", "")) {
			t.Errorf("P22.3: with the ask %s Check = %+v", name, got)
		}
		if got := b.guard.Check(15, bearing("abc"), nil, ask); !isSame(got, worthless) {
			t.Errorf("P22.3: with the ask %s Check = %+v", name, got)
		}
		b.mustHold(14, 1)
	}
}

// TestActive: only one flag of that name, and true, makes an answer good.
func TestActive(t *testing.T) {
	rest := []api.Member{text("scope", "a"), text("client_id", "web"), text("username", "ann"), number("exp", 100)}
	for _, bad := range [][]api.Member{
		{}, {flag("active", false)}, {text("active", "true")}, {number("active", 1)}, {flag("Active", true)}, {flag("active ", true)}, {flag("", true)},
		{flag("active", true), flag("active", true)}, {flag("active", true), flag("active", false)}, {flag("active", true), text("active", "")}, {number("active", 0), flag("active", true)},
		{{Name: "active", Kind: api.MemText, Text: "true", Num: 1, Flag: true}}, {{Name: "active", Kind: api.MemNum, Flag: true}}, {{Name: "active", Flag: true}}, {{Name: "active", Kind: 4, Flag: true}}, {{Name: "active", Kind: -1, Flag: true}},
	} {
		for _, list := range [][]api.Member{append(bad[:len(bad):len(bad)], rest...), append(rest[:4:4], bad...), bad} {
			b := newBench(t, 10)
			b.must(worthless, true, 5, bearing("abc"), nil, list)
			b.must(worthless, true, 5, bearing("abc"), []string{"a"}, list)
			b.mustHold(5, 0)
		}
	}
	for _, good := range [][]api.Member{append([]api.Member{flag("active", true)}, rest...), append(rest[:4:4], flag("active", true)), append(rest[:4:4], api.Member{Name: "active", Kind: api.MemFlag, Text: "x", Num: 9, Flag: true}, flag("Active", false))} {
		b := newBench(t, 10)
		b.must(letIn("ann", "web", "a"), true, 5, bearing("abc"), nil, good)
	}
}

// TestExp: below now and at now an answer is not good; above now it is, and a member that is missing says nothing.
func TestExp(t *testing.T) {
	for _, exp := range []int{math.MinInt, -1, 0, 1, 4, 5} {
		b := newBench(t, 10)
		b.must(worthless, true, 5, bearing("abc"), nil, active(number("exp", exp)))
		b.mustHold(0, 0)
	}
	for _, c := range []struct{ exp, until int }{{6, 6}, {7, 7}, {14, 14}, {15, 15}, {16, 15}, {100, 15}, {last, 15}, {last + 1, 15}, {math.MaxInt, 15}} {
		b := newBench(t, 10)
		b.must(letIn("", ""), true, 5, bearing("abc"), nil, active(number("exp", c.exp)))
		b.mustHold(c.until-1, 1)
		b.mustHold(c.until, 0)
		b.mustKnow(c.until-1, "abc")
		b.mustNotKnow(c.until, "abc")
	}
	for _, missing := range [][]api.Member{
		{text("exp", "3")}, {flag("exp", true)}, {number("exp", 3), number("exp", 3)}, {number("exp", 3), number("exp", 100)}, {number("exp", 3), text("exp", "")}, {flag("exp", false), number("exp", 3)}, {number("Exp", 3)}, {number("iat", 3)},
		{{Name: "exp", Kind: api.MemText, Num: 3}}, {{Name: "exp", Num: 3}}, {{Name: "exp", Kind: 5, Num: 3}},
	} {
		b := newBench(t, 10)
		b.must(letIn("", ""), true, 5, bearing("abc"), nil, active(missing...))
		b.mustHold(14, 1)
		b.mustHold(15, 0)
	}
}

// TestTextsOfAnAnswer: a text that is missing is empty, whatever else stands there.
func TestTextsOfAnAnswer(t *testing.T) {
	for _, value := range []string{"ann", "", " ", "a b", "\x00\xff\"\\\r\n", strings.Repeat("x", 70000)} {
		b := newBench(t, 10)
		b.must(letIn(value, ""), true, 5, bearing("a"), nil, active(text("username", value)))
		b.must(letIn(value, ""), false, 6, bearing("a"), nil, nil)
		b.must(letIn("", value), true, 5, bearing("b"), nil, active(text("client_id", value)))
		b.must(letIn("", value), false, 6, bearing("b"), nil, nil)
	}
	for _, name := range []string{"username", "client_id", "scope"} {
		for _, missing := range [][]api.Member{
			{}, {number(name, 1)}, {flag(name, true)}, {text(name, "a"), text(name, "a")}, {text(name, "a"), flag(name, true)}, {number(name, 1), text(name, "a")}, {text(strings.ToUpper(name), "a")}, {text(name+" ", "a")},
			{{Name: name, Kind: api.MemNum, Text: "a"}}, {{Name: name, Text: "a"}}, {{Name: name, Kind: 9, Text: "a"}},
		} {
			b := newBench(t, 10)
			b.must(letIn("", ""), true, 5, bearing("abc"), nil, active(missing...))
			b.must(letIn("", ""), false, 6, bearing("abc"), nil, nil)
		}
	}
}

// TestScopesOfAnAnswer: rising, each once; none for a text that is refused.
func TestScopesOfAnAnswer(t *testing.T) {
	sixteen := "p o n m l k j i h g f e d c b a"
	for said, want := range map[string]string{
		"a": "a", "b a": "a b", "a a": "a", "b a b a c": "a b c", "ab a": "a ab", "B a !": "! B a", sixteen: "a b c d e f g h i j k l m n o p", sixteen + " " + sixteen: "a b c d e f g h i j k l m n o p", strings.Repeat("x", 32): strings.Repeat("x", 32),
		"": "", " ": "", "a  b": "", " a": "", "a ": "", "a\tb": "", "a\"": "", "a \\": "", "é": "", sixteen + " q": "", strings.Repeat("x", 33): "", "a " + strings.Repeat("x", 33): "", "a\n": "",
	} {
		b := newBench(t, 10)
		scopes := strings.Fields(want)
		b.must(letIn("", "", scopes...), true, 5, bearing("abc"), nil, active(text("scope", said)))
		b.must(letIn("", "", scopes...), false, 6, bearing("abc"), scopes, nil)
		b.must(scarce("none"), false, 6, bearing("abc"), append(scopes, "none")[len(scopes):], nil)
	}
}

// TestNeed: what is needed must be among the scopes, in whatever order and however often; it is told as it stands, but for what is no scope.
func TestNeed(t *testing.T) {
	for _, c := range []struct {
		need []string
		want string // what is told; a blank alone: it is within
	}{
		{nil, " "}, {[]string{}, " "}, {[]string{"a"}, " "}, {[]string{"c", "a", "b"}, " "}, {[]string{"a", "a", "a"}, " "},
		{[]string{"d"}, "d"}, {[]string{"a", "d"}, "a d"}, {[]string{"d", "c", "a"}, "d c a"}, {[]string{"d", "a", "d", "a"}, "d a d a"}, {[]string{"A"}, "A"}, {[]string{"ab"}, "ab"},
		{[]string{""}, ""}, {[]string{"a b"}, ""}, {[]string{"a a"}, ""}, {[]string{" a"}, ""}, {[]string{"a "}, ""}, {[]string{"\"", "\\", "a\r\nb", "\x00", "\x7f", "é", "\t"}, ""}, {[]string{strings.Repeat("x", 33)}, ""},
		{[]string{"z", "a b", "", "a", "\"", "b b", "y", strings.Repeat("x", 32), strings.Repeat("x", 33)}, "z a y " + strings.Repeat("x", 32)},
		{strings.Fields("q p o n m l k j i h g f e d c b a"), "q p o n m l k j i h g f e d c b a"},
	} {
		want := letIn("ann", "web", "a", "b", "c")
		if c.want != " " {
			want = scarce(c.want)
		}
		for _, life := range []int{0, 10} {
			b := newBench(t, life)
			b.must(want, true, 5, bearing("abc"), c.need, anns(100, "b c a"))
			b.must(want, life == 0, 6, bearing("abc"), c.need, anns(100, "b c a"))
			b.must(worthless, true, 5, bearing("xyz"), c.need, nil)
			b.must(unshown, false, 5, get("/r"), c.need, nil)
			b.must(unread, false, 5, bearing("!"), c.need, nil)
		}
	}
	b := newBench(t, 10)
	b.must(scarce("a"), true, 5, bearing("abc"), []string{"a"}, active())
	b.must(letIn("", ""), false, 5, bearing("abc"), nil, nil)
	for n := range 256 {
		s := string([]byte{byte(n)})
		want := ""
		if isScope(s) {
			want = s
		}
		b.must(scarce(want), false, 5, bearing("abc"), []string{s}, nil)
		b.must(scarce("x y"), false, 5, bearing("abc"), []string{"x", "a" + s + " ", "y"}, nil)
	}
}

// TestTimes: a number below 0 counts as 0, one above the greatest time as that.
func TestTimes(t *testing.T) {
	for _, now := range []int{math.MinInt, -1 << 40, -10, -1, 0} {
		b := newBench(t, 10)
		b.must(letIn("", ""), true, now, bearing("abc"), nil, active(number("exp", 1)))
		b.must(worthless, true, now, bearing("xyz"), nil, active(number("exp", 0)))
		for _, other := range []int{math.MinInt, -1, 0} {
			b.mustHold(other, 1)
			b.mustKnow(other, "abc")
		}
		b.mustHold(1, 0)
		b.tell(now, "def")
		b.mustHold(9, 1)
		b.mustHold(10, 0)
	}
	for _, now := range []int{last, last + 1, last + 10, 1 << 50, math.MaxInt} {
		b := newBench(t, 10)
		b.must(letIn("", ""), true, now, bearing("abc"), nil, active(number("exp", last+1)))
		b.must(worthless, true, now, bearing("xyz"), nil, active(number("exp", last)))
		b.tell(now, "def")
		for _, other := range []int{0, last - 1, last, last + 1, last + 20, math.MaxInt} {
			b.mustHold(other, 2)
			b.mustKnow(other, "abc", "def")
		}
	}
	for _, life := range []int{1, 1 << 30} {
		b := newBench(t, life)
		b.tell(last-1, "abc")
		b.mustHold(last-1, 1)
		b.mustHold(last, min(life-1, 1))
		b.mustHold(math.MaxInt, min(life-1, 1))
	}
}

// TestChallengeOfAnything: with every byte in the need, in the token and in the answer.
func TestChallengeOfAnything(t *testing.T) {
	for n := range 256 {
		s := string([]byte{byte(n)})
		b := newBench(t, 10)
		answer := active(text("username", s), text("client_id", s), text("scope", s))
		for _, need := range [][]string{{s}, {s + s}, {"x", s, "y"}, {"x" + s}, {s, s + "x"}} {
			for _, q := range []api.Request{bearing("abc"), bearing("a" + s), bearing(s), authorized("Bearer" + s), get("/r?access_token=" + s), posted("access_token=a" + s), request(s, s, s, s, s)} {
				a := b.check(5, q, need, answer)
				if !field.Value(a.Challenge) || strings.ContainsAny(a.Challenge, "\r\n\x00") {
					t.Errorf("P22.7: %q", a.Challenge)
				}
				if a.Challenge != "" && !strings.HasPrefix(a.Challenge, realm) {
					t.Errorf("P22.7: %q", a.Challenge)
				}
			}
		}
	}
}
