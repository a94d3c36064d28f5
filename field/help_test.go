package field_test

import (
	"encoding/base64"
	"math/rand"
	"net/url"
	"regexp"
	"slices"
	"strconv"
	"strings"
	"testing"

	"usher/api"
	"usher/field"
)

// The chapter's classes of bytes as expressions, over texts that wide has made.
const (
	tokenForm   = "[A-Za-z0-9!#$%&'*+.^_|~\\x60-]+"
	cookieForm  = `[\x21\x23-\x2b\x2d-\x3a\x3c-\x5b\x5d-\x7e]*`
	valueForm   = `[\t\x20-\x7e\x{80}-\x{ff}]`
	innerForm   = `[\t\x20\x21\x23-\x5b\x5d-\x7e\x{80}-\x{ff}]`
	quotedForm  = `"(?:` + innerForm + `|\\` + valueForm + `)*"`
	mediaForm   = tokenForm + `/` + tokenForm
	partForm    = `[ \t]*;[ \t]*(?:` + tokenForm + `=(?:` + tokenForm + `|` + quotedForm + `))?`
	escapesForm = `(?:[\x21-\x24\x26-\x7e]|%[0-9A-Fa-f]{2})*`
)

var (
	wholeToken     = regexp.MustCompile(`\A` + tokenForm + `\z`)
	wholeCookie    = regexp.MustCompile(`\A` + cookieForm + `\z`)
	wholeValue     = regexp.MustCompile(`\A` + valueForm + `*\z`)
	whiteEnds      = regexp.MustCompile(`\A[ \t]|[ \t]\z`)
	wholePiece     = regexp.MustCompile(`\A(` + tokenForm + `)=(?:"(` + cookieForm + `)"|(` + cookieForm + `))\z`)
	wholeSetCookie = regexp.MustCompile(`\A(` + tokenForm + `)=(` + cookieForm + `); Path=/(?:; Max-Age=(0|[1-9][0-9]*))?; Secure; HttpOnly; SameSite=Lax\z`)
	wholeMedia     = regexp.MustCompile(`\A(` + mediaForm + `)(?:` + partForm + `)*\z`)
	headToken      = regexp.MustCompile(`\A` + tokenForm)
	basicScheme    = regexp.MustCompile(`\A[Bb][Aa][Ss][Ii][Cc]\z`)
	behindScheme   = regexp.MustCompile(`\A +([A-Za-z0-9+/]*=*)\z`)
	wholeEscapes   = regexp.MustCompile(`\A` + escapesForm + `\z`)
)

// wide makes a rune of each byte, so that an expression speaks of bytes.
func wide(s string) string {
	runes := make([]rune, len(s))
	for i := range runes {
		runes[i] = rune(s[i])
	}
	return string(runes)
}

func oneByte(n int) string {
	return string([]byte{byte(n)})
}

// everyByte is the 256 bytes, rising.
func everyByte() string {
	b := make([]byte, 256)
	for i := range b {
		b[i] = byte(i)
	}
	return string(b)
}

// noise is size bytes out of those of from, the same ones for the same source.
func noise(random *rand.Rand, from string, size int) string {
	b := make([]byte, size)
	for i := range b {
		b[i] = from[random.Intn(len(from))]
	}
	return string(b)
}

// changedAt hands on each text that comes of s with a byte taken out, put in or changed, at every place.
func changedAt(s string, play func(string)) {
	for at := range len(s) + 1 {
		if at < len(s) {
			play(s[:at] + s[at+1:])
			play(s[:at])
			play(s[at:])
		}
		for n := range 256 {
			play(s[:at] + oneByte(n) + s[at:])
			if at < len(s) {
				play(s[:at] + oneByte(n) + s[at+1:])
			}
		}
	}
}

// grow hands on each text of up to so many of the parts.
func grow(s string, parts []string, more int, play func(string)) {
	play(s)
	for _, part := range parts {
		if more > 0 {
			grow(s+part, parts, more-1, play)
		}
	}
}

func pairs(list ...string) []api.Pair {
	var l []api.Pair
	for i := 0; i < len(list); i += 2 {
		l = append(l, api.Pair{Name: list[i], Value: list[i+1]})
	}
	return l
}

// expectedCookies is what Cookies is to answer, found in another way: by expressions.
func expectedCookies(v string) ([]api.Pair, error) {
	var pieces []string
	for _, piece := range strings.Split(v, ";") {
		for strings.HasPrefix(piece, " ") || strings.HasPrefix(piece, "\t") {
			piece = piece[1:]
		}
		for strings.HasSuffix(piece, " ") || strings.HasSuffix(piece, "\t") {
			piece = piece[:len(piece)-1]
		}
		if piece != "" {
			pieces = append(pieces, piece)
		}
	}
	if len(pieces) > 16 {
		return nil, api.ErrMany
	}
	var l []api.Pair
	for _, piece := range pieces {
		found := wholePiece.FindStringSubmatch(wide(piece))
		if found == nil {
			return nil, api.ErrText
		}
		l = append(l, api.Pair{Name: found[1], Value: found[2] + found[3]})
	}
	return l, nil
}

func expectedSetCookie(v string) (api.Cookie, error) {
	found := wholeSetCookie.FindStringSubmatch(wide(v))
	if found == nil {
		return api.Cookie{}, api.ErrText
	}
	c := api.Cookie{Name: found[1], Value: found[2], MaxAge: -1}
	if found[3] != "" {
		age, err := strconv.ParseInt(found[3], 10, 64)
		if err != nil {
			return api.Cookie{}, api.ErrText
		}
		c.MaxAge = int(age)
	}
	return c, nil
}

func expectedBasic(v string) (string, string, error) {
	scheme := headToken.FindString(wide(v))
	if scheme == "" {
		return "", "", api.ErrText
	}
	if !basicScheme.MatchString(scheme) {
		return "", "", api.ErrScheme
	}
	found := behindScheme.FindStringSubmatch(wide(v[len(scheme):]))
	if found == nil {
		return "", "", api.ErrText
	}
	both, err := base64.StdEncoding.Strict().DecodeString(found[1])
	user, pass, colon := strings.Cut(string(both), ":")
	if err != nil || !colon || !wholeEscapes.MatchString(wide(user)) || !wholeEscapes.MatchString(wide(pass)) {
		return "", "", api.ErrText
	}
	user, _ = url.QueryUnescape(user)
	pass, _ = url.QueryUnescape(pass)
	return user, pass, nil
}

func expectedMedia(v string) (string, error) {
	found := wholeMedia.FindStringSubmatch(wide(v))
	if found == nil {
		return "", api.ErrText
	}
	return strings.ToLower(found[1]), nil
}

func mustReadCookies(t *testing.T, v string, want ...string) {
	t.Helper()
	if got, err := field.Cookies(v); !slices.Equal(got, pairs(want...)) || err != nil {
		t.Errorf("P6.5: Cookies(%q) = %q, %v, want %q", v, got, err, want)
	}
}

func mustNotReadCookies(t *testing.T, v string, want error) {
	t.Helper()
	if got, err := field.Cookies(v); len(got) != 0 || err != want {
		t.Errorf("P6.5: Cookies(%q) = %q, %v, want nothing and %v", v, got, err, want)
	}
}

func mustReadCookiesAsExpected(t *testing.T, v string) {
	t.Helper()
	want, wantErr := expectedCookies(v)
	if got, err := field.Cookies(v); !slices.Equal(got, want) || err != wantErr {
		t.Errorf("P6.5: Cookies(%q) = %q, %v, want %q, %v", v, got, err, want, wantErr)
	}
}

func mustWriteCookies(t *testing.T, l []api.Pair, want string) {
	t.Helper()
	if got, err := field.CookieText(l); got != want || err != nil {
		t.Errorf("P6.6: CookieText(%q) = %q, %v, want %q", l, got, err, want)
	}
	if back, err := field.Cookies(want); !slices.Equal(back, l) || err != nil {
		t.Errorf("P6.6: Cookies(%q) = %q, %v, want %q", want, back, err, l)
	}
}

func mustNotWriteCookies(t *testing.T, l []api.Pair, want error) {
	t.Helper()
	if got, err := field.CookieText(l); got != "" || err != want {
		t.Errorf("P6.6: CookieText(%q) = %q, %v, want nothing and %v", l, got, err, want)
	}
}

func mustSet(t *testing.T, c api.Cookie, want string) {
	t.Helper()
	if got, err := field.SetCookie(c); got != want || err != nil {
		t.Errorf("P6.7: SetCookie(%#v) = %q, %v, want %q", c, got, err, want)
	}
	c.MaxAge = max(c.MaxAge, -1)
	if back, err := field.ReadSetCookie(want); back != c || err != nil {
		t.Errorf("P6.8: ReadSetCookie(%q) = %#v, %v, want %#v", want, back, err, c)
	}
}

func mustNotSet(t *testing.T, c api.Cookie) {
	t.Helper()
	if got, err := field.SetCookie(c); got != "" || err != api.ErrText {
		t.Errorf("P6.7: SetCookie(%#v) = %q, %v, want nothing and ErrText", c, got, err)
	}
}

func mustNotReadSet(t *testing.T, v string) {
	t.Helper()
	if got, err := field.ReadSetCookie(v); got != (api.Cookie{}) || err != api.ErrText {
		t.Errorf("P6.8: ReadSetCookie(%q) = %#v, %v, want the zero cookie and ErrText", v, got, err)
	}
}

func mustReadSetAsExpected(t *testing.T, v string) {
	t.Helper()
	want, wantErr := expectedSetCookie(v)
	if got, err := field.ReadSetCookie(v); got != want || err != wantErr {
		t.Errorf("P6.8: ReadSetCookie(%q) = %#v, %v, want %#v, %v", v, got, err, want, wantErr)
	}
}

func mustBasic(t *testing.T, v, user, pass string) {
	t.Helper()
	if u, p, err := field.Basic(v); u != user || p != pass || err != nil {
		t.Errorf("P6.9: Basic(%q) = %q, %q, %v, want %q, %q", v, u, p, err, user, pass)
	}
}

func mustNotBasic(t *testing.T, v string, want error) {
	t.Helper()
	if u, p, err := field.Basic(v); u != "" || p != "" || err != want {
		t.Errorf("P6.9: Basic(%q) = %q, %q, %v, want nothing and %v", v, u, p, err, want)
	}
}

func mustBasicAsExpected(t *testing.T, v string) {
	t.Helper()
	if user, pass, err := expectedBasic(v); err != nil {
		mustNotBasic(t, v, err)
	} else {
		mustBasic(t, v, user, pass)
	}
}

func mustMedia(t *testing.T, v, want string) {
	t.Helper()
	if got, err := field.Media(v); got != want || err != nil {
		t.Errorf("P6.11: Media(%q) = %q, %v, want %q", v, got, err, want)
	}
}

func mustNotMedia(t *testing.T, v string) {
	t.Helper()
	if got, err := field.Media(v); got != "" || err != api.ErrText {
		t.Errorf("P6.11: Media(%q) = %q, %v, want nothing and ErrText", v, got, err)
	}
}

func mustMediaAsExpected(t *testing.T, v string) {
	t.Helper()
	if want, err := expectedMedia(v); err != nil {
		mustNotMedia(t, v)
	} else {
		mustMedia(t, v, want)
	}
}
