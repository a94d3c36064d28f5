package terms_test

import (
	"math/rand"
	"net/url"
	"regexp"
	"slices"
	"strconv"
	"strings"
	"testing"

	"usher/api"
	"usher/pct"
	"usher/terms"
)

// The chapter's words as expressions, over texts that wide has made.
const (
	scopeForm    = `[\x21\x23-\x5b\x5d-\x7e]{1,32}`
	escapeForm   = `%[0-9A-Fa-f]{2}`
	pathByteForm = `[A-Za-z0-9._~!$&'()*+,;=:@-]|` + escapeForm
	pathForm     = `(?:/(?:` + pathByteForm + `|/)*)?`
	queryForm    = `(?:\?(?:` + pathByteForm + `|[/?])*)?`
	labelForm    = `[A-Za-z0-9](?:[A-Za-z0-9-]{0,61}[A-Za-z0-9])?`
	hostForm     = `(?:` + labelForm + `(?:\.` + labelForm + `)*|\[[0-9A-Fa-f:.]+\])`
	localForm    = `(?:localhost|127\.0\.0\.1|\[::1\])`
	portForm     = `(?::([1-9][0-9]{0,4}))?`
	schemeForm   = `[a-z][a-z0-9+-]*\.[a-z0-9.+-]*`
)

var (
	wholeName    = regexp.MustCompile(`\A[\x21-\x7e]{1,64}\z`)
	printable    = regexp.MustCompile(`\A[\x20-\x7e]+\z`)
	wholeScopes  = regexp.MustCompile(`\A` + scopeForm + `(?: ` + scopeForm + `)*\z`)
	wholeSecure  = regexp.MustCompile(`\Ahttps://` + hostForm + portForm + pathForm + queryForm + `\z`)
	wholeLocal   = regexp.MustCompile(`\Ahttp://` + localForm + portForm + pathForm + queryForm + `\z`)
	wholePrivate = regexp.MustCompile(`\A` + schemeForm + `:/(?:(?:` + pathByteForm + `)(?:` + pathByteForm + `|/)*)?` + queryForm + `\z`)
)

// wide makes a rune of each byte, so that an expression speaks of bytes.
func wide(s string) string {
	runes := make([]rune, len(s))
	for i := range runes {
		runes[i] = rune(s[i])
	}
	return string(runes)
}

func oneByte(n int) string {
	return string([]byte{byte(n)})
}

// everyByte is the 256 bytes, rising.
func everyByte() string {
	b := make([]byte, 256)
	for i := range b {
		b[i] = byte(i)
	}
	return string(b)
}

// noise is size bytes out of those of from, the same ones for the same source.
func noise(random *rand.Rand, from string, size int) string {
	b := make([]byte, size)
	for i := range b {
		b[i] = from[random.Intn(len(from))]
	}
	return string(b)
}

// one of the texts.
func one(random *rand.Rand, texts ...string) string {
	return texts[random.Intn(len(texts))]
}

// changedAt hands on each text that comes of s with a byte taken out, put in or changed, at every place.
func changedAt(s string, play func(string)) {
	for at := range len(s) + 1 {
		if at < len(s) {
			play(s[:at] + s[at+1:])
			play(s[:at])
			play(s[at:])
		}
		for n := range 256 {
			play(s[:at] + oneByte(n) + s[at:])
			if at < len(s) {
				play(s[:at] + oneByte(n) + s[at+1:])
			}
		}
	}
}

// grow hands on each text of up to so many of the parts.
func grow(s string, parts []string, more int, play func(string)) {
	play(s)
	for _, part := range parts {
		if more > 0 {
			grow(s+part, parts, more-1, play)
		}
	}
}

func pairs(list ...string) []api.Pair {
	var l []api.Pair
	for i := 0; i < len(list); i += 2 {
		l = append(l, api.Pair{Name: list[i], Value: list[i+1]})
	}
	return l
}

func numbered(count int) []api.Pair {
	var l []api.Pair
	for i := range count {
		l = append(l, api.Pair{Name: "n" + strconv.Itoa(i), Value: strconv.Itoa(i)})
	}
	return l
}

// words is so many different scopes, falling.
func words(count int) []string {
	var l []string
	for i := range count {
		l = append(l, "s"+strconv.Itoa(1000000+count-i))
	}
	return l
}

func expectedScopes(s string) ([]string, error) {
	if !wholeScopes.MatchString(wide(s)) {
		return nil, api.ErrText
	}
	have := map[string]bool{}
	for _, scope := range strings.Fields(s) {
		have[scope] = true
	}
	if len(have) > 16 {
		return nil, api.ErrMany
	}
	var l []string
	for len(have) > 0 {
		least := ""
		for scope := range have {
			if least == "" || strings.Compare(scope, least) < 0 {
				least = scope
			}
		}
		l = append(l, least)
		delete(have, least)
	}
	return l, nil
}

func expectedRedirect(s string) bool {
	if len(s) > 512 {
		return false
	}
	for _, form := range []*regexp.Regexp{wholeSecure, wholeLocal} {
		if found := form.FindStringSubmatch(wide(s)); found != nil {
			port, err := strconv.Atoi(found[1])
			return found[1] == "" || err == nil && port <= 65535
		}
	}
	return wholePrivate.MatchString(wide(s))
}

// expectedForm writes pairs as the library's forms are.
func expectedForm(l []api.Pair) string {
	var parts []string
	for _, pair := range l {
		parts = append(parts, url.QueryEscape(pair.Name)+"="+url.QueryEscape(pair.Value))
	}
	return strings.Join(parts, "&")
}

func expectedAnswer(redirect string, l []api.Pair) (string, error) {
	if !expectedRedirect(redirect) {
		return "", api.ErrText
	}
	if len(l) > 32 {
		return "", api.ErrMany
	}
	if len(l) == 0 {
		return redirect, nil
	}
	if strings.Count(redirect, "?") == 0 {
		return redirect + "?" + expectedForm(l), nil
	}
	if strings.Index(redirect, "?") == len(redirect)-1 {
		return redirect + expectedForm(l), nil
	}
	return redirect + "&" + expectedForm(l), nil
}

func mustName(t *testing.T, s string, want bool) {
	t.Helper()
	if got := terms.Name(s); got != want {
		t.Errorf("P9.1: Name(%.100q) = %v (%d bytes)", s, got, len(s))
	}
	if got := wholeName.MatchString(wide(s)); got != want {
		t.Errorf("P9.1: of %.100q the expression expects %v", s, got)
	}
}

func mustState(t *testing.T, s string, want bool) {
	t.Helper()
	if got := terms.State(s); got != want {
		t.Errorf("P9.2: State(%.100q) = %v (%d bytes)", s, got, len(s))
	}
	if got := expectedState(s); got != want {
		t.Errorf("P9.2: of %.100q the expression expects %v", s, got)
	}
}

func expectedState(s string) bool {
	return len(s) <= 512 && printable.MatchString(wide(s))
}

func mustScopes(t *testing.T, s string, want ...string) {
	t.Helper()
	if got, err := terms.Scopes(s); !slices.Equal(got, want) || err != nil {
		t.Errorf("P9.3: Scopes(%.300q) = %q, %v, want %q", s, got, err, want)
	}
	if got, err := expectedScopes(s); !slices.Equal(got, want) || err != nil {
		t.Errorf("P9.3: of %.300q the expression expects %q, %v, want %q", s, got, err, want)
	}
}

func mustNotScopes(t *testing.T, s string, refusal error) {
	t.Helper()
	if got, err := terms.Scopes(s); len(got) != 0 || err != refusal {
		t.Errorf("P9.3: Scopes(%.300q) = %q, %v, want nothing and %v", s, got, err, refusal)
	}
	if got, err := expectedScopes(s); len(got) != 0 || err != refusal {
		t.Errorf("P9.3: of %.300q the expression expects %q, %v, want %v", s, got, err, refusal)
	}
}

func mustScopesAsExpected(t *testing.T, s string) {
	t.Helper()
	got, err := terms.Scopes(s)
	if want, refusal := expectedScopes(s); !slices.Equal(got, want) || err != refusal {
		t.Errorf("P9.3: Scopes(%.300q) = %q, %v, want %q, %v", s, got, err, want, refusal)
	}
}

func mustScopeText(t *testing.T, want string, l ...string) {
	t.Helper()
	if got := terms.ScopeText(l); got != want {
		t.Errorf("P9.4: ScopeText(%.300q) = %.300q, want %.300q", l, got, want)
	}
}

func mustRedirect(t *testing.T, s string) {
	t.Helper()
	if !terms.Redirect(s) || !expectedRedirect(s) {
		t.Errorf("P9.6: Redirect(%.600q) = %v, the expressions say %v, want true (%d bytes)", s, terms.Redirect(s), expectedRedirect(s), len(s))
	}
}

func mustNotRedirect(t *testing.T, s string) {
	t.Helper()
	if terms.Redirect(s) || expectedRedirect(s) {
		t.Errorf("P9.6: Redirect(%.600q) = %v, the expressions say %v, want false (%d bytes)", s, terms.Redirect(s), expectedRedirect(s), len(s))
	}
}

func mustRedirectAsExpected(t *testing.T, s string) {
	t.Helper()
	if got, want := terms.Redirect(s), expectedRedirect(s); got != want {
		t.Errorf("P9.6: Redirect(%.600q) = %v, want %v (%d bytes)", s, got, want, len(s))
	}
}

func mustSplit(t *testing.T, s, ahead, behind string, has bool) {
	t.Helper()
	if a, b, ok := terms.Split(s); a != ahead || b != behind || ok != has {
		t.Errorf("P9.7: Split(%.300q) = %.300q, %.300q, %v, want %.300q, %.300q, %v", s, a, b, ok, ahead, behind, has)
	}
}

func mustAnswer(t *testing.T, redirect string, l []api.Pair, want string) {
	t.Helper()
	if got, err := terms.Answer(redirect, l); got != want || err != nil {
		t.Errorf("P9.8: Answer(%q, %q) = %q, %v, want %q", redirect, l, got, err, want)
	}
	mustBeFoundAgain(t, redirect, l)
}

func mustNotAnswer(t *testing.T, redirect string, l []api.Pair, refusal error) {
	t.Helper()
	if got, err := terms.Answer(redirect, l); got != "" || err != refusal {
		t.Errorf("P9.8: Answer(%.600q, %d pairs) = %q, %v, want nothing and %v", redirect, len(l), got, err, refusal)
	}
}

func mustAnswerAsExpected(t *testing.T, redirect string, l []api.Pair) {
	t.Helper()
	got, err := terms.Answer(redirect, l)
	if want, refusal := expectedAnswer(redirect, l); got != want || err != refusal {
		t.Errorf("P9.8: Answer(%q, %q) = %q, %v, want %q, %v", redirect, l, got, err, want, refusal)
	}
}

// mustBeFoundAgain looks for the pairs that were put into an address, and for those that stood there.
func mustBeFoundAgain(t *testing.T, redirect string, l []api.Pair) {
	t.Helper()
	ahead, query, _ := strings.Cut(redirect, "?")
	own, err := pct.Pairs(query)
	text, refusal := terms.Answer(redirect, l)
	if err != nil || refusal != nil {
		t.Errorf("P9.9: %q is read as %q, %v; Answer(.., %q) = %q, %v", query, own, err, l, text, refusal)
		return
	}
	gotAhead, gotQuery, _ := strings.Cut(text, "?")
	if gotAhead != ahead || !strings.HasPrefix(gotQuery, query) {
		t.Errorf("P9.9: Answer(%q, %q) = %q has not what stood there", redirect, l, text)
	}
	want := slices.Concat(own, l)
	got, err := pct.Pairs(gotQuery)
	if len(want) > 32 {
		if err != api.ErrMany {
			t.Errorf("P9.9: in %q are read %q, %v, want ErrMany", text, got, err)
		}
		return
	}
	if !slices.Equal(got, want) || err != nil {
		t.Errorf("P9.9: in %q are read %q, %v, want %q", text, got, err, want)
	}
}
