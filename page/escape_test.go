package page_test

import (
	"math/rand"
	"strings"
	"testing"

	"usher/api"
	"usher/page"
)

func TestEscapeOfEveryByte(t *testing.T) {
	for n := range 256 {
		char := string([]byte{byte(n)})
		want := char
		if i := strings.Index(fiveBytes, char); i >= 0 {
			want = fiveEscapes[i]
		}
		for _, around := range []string{"", "a", "&", "\xc3"} {
			s := around + char + around
			written := strings.ReplaceAll(around, "&", "&amp;")
			if got := page.Escape(s); got != written+want+written {
				t.Errorf("P5.1: Escape(%q) = %q, want %q", s, got, written+want+written)
			}
			mustUnescape(t, written+want+written, s)
		}
	}
}

func TestTheExamplesOfEscaping(t *testing.T) {
	if got := page.Escape("<b a=\"1\">&'"); got != `&lt;b a=&quot;1&quot;&gt;&amp;&#39;` {
		t.Errorf("P5.1: %q", got)
	}
	mustUnescape(t, "a&amp;lt;", "a&lt;")
	mustNotUnescape(t, "a&b")
	mustNotUnescape(t, "&amp")
	mustNotUnescape(t, ">")
}

func TestEscapeAndBack(t *testing.T) {
	random := rand.New(rand.NewSource(1))
	texts := append([]string{strings.Repeat("a<&", 50000)}, trickyTexts...)
	for range 2000 {
		noise := make([]byte, random.Intn(40))
		random.Read(noise)
		texts = append(texts, string(noise), someText(random)+someText(random))
	}
	for _, s := range texts {
		got := page.Escape(s)
		if got != written.Replace(s) {
			t.Errorf("P5.1: Escape(%q) = %q, want %q", s, got, written.Replace(s))
		}
		mustUnescape(t, got, s)
	}
}

func TestTheFiveBytesThemselvesAreNoText(t *testing.T) {
	for _, char := range fiveBytes {
		for _, s := range []string{"%", "a%", "%a", "a%b", "&amp;%", "%&amp;", "%;", "&lt;%&gt;"} {
			mustNotUnescape(t, strings.ReplaceAll(s, "%", string(char)))
		}
	}
}

func TestAnEscapeIsWholeAndOfTheOneSpelling(t *testing.T) {
	for _, escape := range fiveEscapes {
		for size := 1; size < len(escape); size++ {
			for _, behind := range []string{"", "a", " ", "&amp;", "\x00"} {
				mustNotUnescape(t, escape[:size]+behind)
				mustNotUnescape(t, "a"+escape[:size]+behind)
			}
		}
		for i := 1; i < len(escape); i++ {
			mustNotUnescape(t, escape+escape[:i]+"~"+escape[i:])
			mustNotUnescape(t, escape+escape[:i]+escape[i+1:])
		}
	}
	for _, s := range []string{"&#039;", "&apos;", "&AMP;", "&Amp;", "&LT;", "&nbsp;", "&#38;", "&#x27;", "&#X27;", "&#39", "&#34;", "&;", "& amp;", "&amp ;", "&&amp;", "&amp;&", "&quot", "&lt&gt;"} {
		mustNotUnescape(t, s)
		mustNotUnescape(t, "some text "+s+" and more")
	}
}

func TestUnescapeOfAllShortTexts(t *testing.T) {
	parts := []string{"&", "amp", ";", "lt", "#39", "<", "a", "gt;", "quot;", "\x00"}
	var grow func(s string, more int)
	grow = func(s string, more int) {
		want, ok := meant.Replace(s), wholeText.MatchString(s)
		if got, err := page.Unescape(s); ok && (got != want || err != nil) || !ok && (got != "" || err != api.ErrText) {
			t.Errorf("P5.2: Unescape(%q) = %q, %v, want %q if it may be read: %v", s, got, err, want, ok)
		}
		for _, part := range parts {
			if more > 0 {
				grow(s+part, more-1)
			}
		}
	}
	grow("", 5)
}
