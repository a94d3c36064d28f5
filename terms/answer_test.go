package terms_test

import (
	"math/rand"
	"strings"
	"testing"

	"usher/api"
	"usher/terms"
)

func TestSplit(t *testing.T) {
	mustSplit(t, "", "", "", false)
	mustSplit(t, "?", "", "", true)
	mustSplit(t, "??", "", "?", true)
	mustSplit(t, "/a", "/a", "", false)
	mustSplit(t, "/a?", "/a", "", true)
	mustSplit(t, "?b", "", "b", true)
	mustSplit(t, "/a?b", "/a", "b", true)
	mustSplit(t, "/a?b?c", "/a", "b?c", true)
	mustSplit(t, "/a?b?", "/a", "b?", true)
	mustSplit(t, "/a%3Fb", "/a%3Fb", "", false)
	mustSplit(t, "\xff?\x00#?", "\xff", "\x00#?", true)
	mustSplit(t, "\uff1f\xbf", "\uff1f\xbf", "", false)
	for n := range 256 {
		b := oneByte(n)
		if b == "?" {
			continue
		}
		mustSplit(t, b, b, "", false)
		mustSplit(t, b+"?"+b+"?", b, b+"?", true)
	}
}

func TestSplitEveryShortText(t *testing.T) {
	grow("", []string{"?", "a", "/", "\xff"}, 6, func(s string) {
		parts := strings.SplitN(s, "?", 2)
		if len(parts) == 1 {
			mustSplit(t, s, s, "", false)
			return
		}
		mustSplit(t, s, parts[0], parts[1], true)
	})
}

func TestAnswer(t *testing.T) {
	code := pairs("code", "x")
	mustAnswer(t, "https://a/cb", pairs("code", "x y", "state", "&"), "https://a/cb?code=x+y&state=%26")
	mustAnswer(t, "https://a", code, "https://a?code=x")
	mustAnswer(t, "https://a:1", code, "https://a:1?code=x")
	mustAnswer(t, "https://a?", code, "https://a?code=x")
	mustAnswer(t, "https://a/?k", code, "https://a/?k&code=x")
	mustAnswer(t, "https://a/?k=1&l=2", code, "https://a/?k=1&l=2&code=x")
	mustAnswer(t, "https://a/?k&", code, "https://a/?k&&code=x")
	mustAnswer(t, "https://a/?&", code, "https://a/?&&code=x")
	mustAnswer(t, "https://a/??", code, "https://a/??&code=x")
	mustAnswer(t, "https://a/cb?k?", code, "https://a/cb?k?&code=x")
	mustAnswer(t, "https://a/cb?k?l=?", code, "https://a/cb?k?l=?&code=x")
	mustAnswer(t, "https://a/%3F", code, "https://a/%3F?code=x")
	mustAnswer(t, "https://a/&", code, "https://a/&?code=x")
	mustAnswer(t, "http://localhost:8080/cb?%2f=+", code, "http://localhost:8080/cb?%2f=+&code=x")
	mustAnswer(t, "com.example.app:/cb", pairs("", ""), "com.example.app:/cb?=")
	mustAnswer(t, "com.example.app:/?code=y", code, "com.example.app:/?code=y&code=x")
	mustAnswer(t, "https://a/", pairs("\x00é", "?#/ %"), "https://a/?%00%C3%A9=%3F%23%2F+%25")
}

func TestAnswerWithoutPairs(t *testing.T) {
	for _, s := range addresses() {
		mustAnswer(t, s, nil, s)
		mustAnswer(t, s, []api.Pair{}, s)
	}
}

// TestAnswerEveryAddress has no, an empty and a full query in each form of an address.
func TestAnswerEveryAddress(t *testing.T) {
	for _, s := range addresses() {
		for _, l := range [][]api.Pair{pairs("code", "x"), pairs("", ""), pairs("", "", "a", ""), pairs("a", everyByte(), everyByte(), "b"), pairs("code", "", "code", "?&=+ %"), numbered(32)} {
			mustAnswerAsExpected(t, s, l)
			mustBeFoundAgain(t, s, l)
		}
	}
}

func TestAnswerRefuses(t *testing.T) {
	for _, s := range strangers() {
		for _, count := range []int{0, 1, 32, 33, 1000} {
			mustNotAnswer(t, s, numbered(count), api.ErrText)
		}
	}
	for _, s := range addresses() {
		for _, count := range []int{33, 34, 1000} {
			mustNotAnswer(t, s, numbered(count), api.ErrMany)
			mustNotAnswer(t, s, make([]api.Pair, count), api.ErrMany)
		}
	}
	long := "https://a/" + strings.Repeat("x", 502)
	mustNotAnswer(t, long+"x", numbered(1), api.ErrText)
	mustNotAnswer(t, long+"x", numbered(33), api.ErrText)
	mustNotAnswer(t, long, numbered(33), api.ErrMany)
}

// TestAnswerIsLong: what comes out has no limit of its own.
func TestAnswerIsLong(t *testing.T) {
	long := "https://a/" + strings.Repeat("x", 502)
	mustAnswer(t, long, pairs("code", "x"), long+"?code=x")
	mustAnswer(t, long, make([]api.Pair, 32), long+"?"+strings.Repeat("=&", 31)+"=")
	full := "https://a/?" + strings.Repeat("x", 501)
	mustAnswer(t, full, pairs("code", "x"), full+"&code=x")
	ended := "https://a/" + strings.Repeat("x", 501) + "?"
	mustAnswer(t, ended, pairs("code", "x"), ended+"code=x")
	many := "https://a/?" + strings.Repeat("x&", 40)
	if got, err := terms.Answer(many, numbered(32)); got != many+"&"+expectedForm(numbered(32)) || err != nil {
		t.Errorf("P9.8: Answer of a query of 40 pieces = %q, %v", got, err)
	}
	value := strings.Repeat(" ", 1<<16)
	mustAnswer(t, "https://a", pairs("v", value), "https://a?v="+strings.Repeat("+", 1<<16))
}

// TestPairsTogether counts up to the most pairs that are read again, and one past it.
func TestPairsTogether(t *testing.T) {
	for own := range 33 {
		for _, query := range []string{strings.Repeat("k=v&", own), strings.TrimSuffix(strings.Repeat("k&", own), "&"), "&" + strings.Repeat("=&&", own)} {
			for _, count := range []int{0, 1, 31 - own, 32 - own, 33 - own, 32} {
				if count >= 0 && count <= 32 {
					mustBeFoundAgain(t, "https://a/cb?"+query, numbered(count))
					mustBeFoundAgain(t, "com.example.app:/cb?"+query, make([]api.Pair, count))
				}
			}
		}
	}
}

func TestDrawnAnswers(t *testing.T) {
	random := rand.New(rand.NewSource(98))
	for range 20000 {
		to := one(random, "https://a", "http://localhost:1/x", "a.b:/", "http://a", "https://[::1]/") + one(random, "", "?", "?k", "?"+noise(random, "a=&?/%20", random.Intn(12)))
		var l []api.Pair
		for range random.Intn(6) {
			l = append(l, api.Pair{Name: noise(random, everyByte(), random.Intn(4)), Value: noise(random, "a &=?%+\xff", random.Intn(5))})
		}
		mustAnswerAsExpected(t, to, l)
		if expectedRedirect(to) {
			mustBeFoundAgain(t, to, l)
		}
	}
}
