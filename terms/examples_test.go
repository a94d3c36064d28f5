package terms_test

import (
	"strings"
	"testing"

	"usher/api"
)

// TestExamples goes down the chapter's table.
func TestExamples(t *testing.T) {
	mustName(t, "a:b", true)
	mustName(t, "a b", false)
	mustName(t, "", false)
	mustName(t, strings.Repeat("n", 64), true)
	mustName(t, strings.Repeat("n", 65), false)

	mustState(t, " ", true)
	mustState(t, "", false)
	mustState(t, "é", false)

	mustScopes(t, "b a b", "a", "b")
	for _, s := range []string{"", "a  b", " a", "a\""} {
		mustNotScopes(t, s, api.ErrText)
	}
	mustNotScopes(t, alphabet[:33], api.ErrMany)
	mustScopes(t, strings.Repeat("q ", 16)+"q", "q")
	mustScopeText(t, "a b", "a", "b")

	mustWithin(t, []string{}, []string{}, true)
	mustWithin(t, []string{"a", "a"}, []string{"b", "a"}, true)
	mustWithin(t, []string{"a"}, []string{"ab"}, false)
}

func TestExamplesOfAddresses(t *testing.T) {
	for _, s := range []string{"https://app.example/cb?x=%2f", "https://app.example", "https://[2001:db8::1]:8443/", "http://localhost:8080/cb", "com.example.app:/cb"} {
		mustRedirect(t, s)
	}
	for _, s := range []string{
		"http://app.example/cb", "http://localhostx/",
		"example:/cb", "com.example.app://cb", "com.example.app:cb",
		"https://u@app.example/", "https://app.example/#f", "https://app.example/%2", "https://app.example:0/", "https://app.example:65536/", "https://-a.example/", "https://a..b/", "HTTPS://a/",
	} {
		mustNotRedirect(t, s)
	}
	mustAnswer(t, "https://a/cb", pairs("code", "x y", "state", "&"), "https://a/cb?code=x+y&state=%26")
	mustAnswer(t, "https://a/cb?k=1", pairs("code", "x"), "https://a/cb?k=1&code=x")
	mustAnswer(t, "https://a/cb?", pairs("code", "x"), "https://a/cb?code=x")
	mustAnswer(t, "https://a/cb?k?", pairs("code", "x"), "https://a/cb?k?&code=x")
	mustSplit(t, "/a?b?c", "/a", "b?c", true)
	mustSplit(t, "/a", "/a", "", false)
	mustSplit(t, "?", "", "", true)
}
