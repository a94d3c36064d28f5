package field_test

import (
	"math/rand"
	"slices"
	"strings"
	"sync"
	"testing"

	"usher/api"
	"usher/field"
)

// TestWhatIsHandedInStaysAsItWas looks at the spare room behind the lists too.
func TestWhatIsHandedInStaysAsItWas(t *testing.T) {
	for count := range 20 {
		for _, wrong := range []string{"", ";", "\xff"} {
			room := make([]api.Pair, count+5)
			for i := range room {
				room[i] = api.Pair{Name: "Name" + oneByte('A'+i), Value: "value" + wrong}
			}
			before := slices.Clone(room)
			field.Lookup(room[:count], "namea")
			field.Lookup(room[:count], "none")
			field.CookieText(room[:count])
			if !slices.Equal(room, before) {
				t.Errorf("P6.12: of %q is left %q", before, room)
			}
		}
	}
}

func TestAnsweredListsAreNew(t *testing.T) {
	for count := range 17 {
		v := strings.Repeat("a=\"1\";", count)
		first, _ := field.Cookies(v)
		second, _ := field.Cookies(v)
		want := slices.Clone(second)
		first = first[:cap(first)]
		for i := range first {
			first[i] = api.Pair{Name: "written", Value: "over"}
		}
		_ = append(second, pairs("one", "more")...)
		third, _ := field.Cookies(v)
		if len(third) != count || !slices.Equal(second, want) || !slices.Equal(third, want) {
			t.Errorf("P6.12: two answers of %d cookies share memory", count)
		}
	}
}

// TestCallsKeepNothing makes right and wrong calls by turns, many at a time.
func TestCallsKeepNothing(t *testing.T) {
	var calls sync.WaitGroup
	for range 8 {
		calls.Go(func() {
			for range 50 {
				mustNotReadCookies(t, "a=1;b", api.ErrText)
				mustReadCookies(t, "a=1;b=", "a", "1", "b", "")
				mustNotWriteCookies(t, pairs("a", ";"), api.ErrText)
				mustWriteCookies(t, pairs("a", "1", "b", ""), "a=1; b=")
				mustNotSet(t, api.Cookie{Name: "a b"})
				mustSet(t, api.Cookie{Name: "a", MaxAge: 1}, "a=; Path=/; Max-Age=1"+lastAttributes)
				mustNotBasic(t, "Bearer YTpi", api.ErrScheme)
				mustBasic(t, "Basic YTpi", "a", "b")
				mustNotMedia(t, "a/b;c")
				mustMedia(t, "A/b;c=d", "a/b")
			}
		})
	}
	calls.Wait()
}

// TestLongTexts would not end in its time if a call were not linear.
func TestLongTexts(t *testing.T) {
	const size = 1 << 21
	a, blanks, tabs := strings.Repeat("a", size), strings.Repeat(" ", size), strings.Repeat("\t", size)
	if !field.Token(a) || field.Token(a+" ") || !field.Value(a+tabs+a) || field.Value(a+blanks) || field.Trim(tabs+a+blanks+a+blanks) != a+blanks+a || field.Trim(blanks) != "" {
		t.Error("P6.12: a long text is no token or no value, or is not trimmed")
	}
	many := make([]api.Pair, size)
	if got, count := field.Lookup(many, a); got != "" || count != 0 {
		t.Errorf("P6.12: Lookup among %d pairs = %q, %d", size, got, count)
	}
	if got, count := field.Lookup(many, ""); got != "" || count != size {
		t.Errorf("P6.12: Lookup among %d pairs = %q, %d", size, got, count)
	}
	if got, count := field.Lookup(pairs(strings.ToUpper(a), a), a); got != a || count != 1 {
		t.Errorf("P6.12: Lookup of a long name: %d", count)
	}
	if got, err := field.Cookies(strings.Repeat(" ;", size) + a + "=\"" + a + "\"" + blanks); !slices.Equal(got, pairs(a, a)) || err != nil {
		t.Errorf("P6.12: a long cookie: %d, %v", len(got), err)
	}
	if _, err := field.Cookies(strings.Repeat("a=1;", size)); err != api.ErrMany {
		t.Errorf("P6.12: %d cookies: %v", size, err)
	}
	if _, err := field.CookieText(many); err != api.ErrMany {
		t.Errorf("P6.12: %d cookies: %v", size, err)
	}
	mustHoldLong(t, a)
	if user, pass, err := field.Basic("Basic" + blanks + field.BasicOf(tabs, a)[6:]); user != tabs || pass != a || err != nil {
		t.Errorf("P6.12: long credentials: %v", err)
	}
	if _, _, err := field.Basic(a + " YTpi"); err != api.ErrScheme {
		t.Errorf("P6.12: a long scheme: %v", err)
	}
	if got, err := field.Media(a + "/b" + strings.Repeat(" ;", size) + strings.Repeat("; a=b", size) + ";c=\"" + strings.Repeat("\\\"", size) + "\""); got != a+"/b" || err != nil {
		t.Errorf("P6.12: a long media type: %d, %v", len(got), err)
	}
	if _, err := field.Media("a/b" + blanks + ";" + tabs + "c=\"" + blanks); err != api.ErrText {
		t.Errorf("P6.12: a long media type: %v", err)
	}
}

// mustHoldLong writes and reads a long cookie.
func mustHoldLong(t *testing.T, a string) {
	t.Helper()
	c := api.Cookie{Name: a, Value: a, MaxAge: 7}
	written, err := field.SetCookie(c)
	if err != nil || written != a+"="+a+"; Path=/; Max-Age=7"+lastAttributes {
		t.Errorf("P6.12: a long cookie is not written: %v", err)
	}
	if got, err := field.ReadSetCookie(written); got != c || err != nil {
		t.Errorf("P6.12: a long cookie is not read: %v", err)
	}
	if got, err := field.ReadSetCookie("a=b; Path=/; Max-Age=" + strings.Repeat("1", len(a)) + lastAttributes); got != (api.Cookie{}) || err != api.ErrText {
		t.Errorf("P6.12: a long age: %v, %v", got, err)
	}
	if got, err := field.CookieText(pairs(a, a, "b", a)); got != a+"="+a+"; b="+a || err != nil {
		t.Errorf("P6.12: long cookies are not written: %v", err)
	}
}

// TestEveryCallEnds plays texts of any bytes, and of those at which the rules turn.
func TestEveryCallEnds(t *testing.T) {
	defer func() {
		if r := recover(); r != nil {
			t.Errorf("P6.12: a call panics: %v", r)
		}
	}()
	random := rand.New(rand.NewSource(5))
	for round := range 20000 {
		for _, s := range []string{noise(random, everyByte(), round%40), noise(random, " \t;;==\"\"\\/a:,Basic\xff", round%30)} {
			field.Token(s)
			field.Value(s)
			field.Trim(s)
			field.Lookup(pairs(s, s), s)
			mustReadCookiesAsExpected(t, s)
			field.CookieText(pairs(s, s))
			field.SetCookie(api.Cookie{Name: s, Value: s, MaxAge: int(random.Uint64())})
			mustReadSetAsExpected(t, s)
			mustBasicAsExpected(t, s)
			mustBasicAsExpected(t, "Basic "+s)
			mustBasic(t, field.BasicOf(s, s), s, s)
			mustMediaAsExpected(t, s)
			mustMediaAsExpected(t, "a/b;"+s)
		}
	}
}
