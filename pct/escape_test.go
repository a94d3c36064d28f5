package pct_test

import (
	"net/url"
	"strings"
	"testing"

	"usher/pct"
)

func TestEscapeExamples(t *testing.T) {
	for _, c := range []struct {
		text string
		plus bool
		want string
	}{
		{"a b&c=d", false, "a%20b%26c%3Dd"},
		{"a b+c", true, "a+b%2Bc"},
		{"~-._/", true, "~-._%2F"},
		{"\xff\x00", false, "%FF%00"},
		{"", true, ""},
		{"", false, ""},
		{"+", true, "%2B"},
		{"+", false, "%2B"},
		{"%", true, "%25"},
		{" ", true, "+"},
		{" ", false, "%20"},
	} {
		if got := pct.Escape(c.text, c.plus); got != c.want {
			t.Errorf("P3.1: Escape(%q, %v) = %q, want %q", c.text, c.plus, got, c.want)
		}
	}
}

func TestEscapeEveryByte(t *testing.T) {
	const digits = "0123456789ABCDEF"
	for _, plus := range bothWays {
		for number := range 256 {
			text := string([]byte{byte(number)})
			want := "%" + digits[number/16:number/16+1] + digits[number%16:number%16+1]
			if strings.Contains(unreservedBytes, text) {
				want = text
			}
			if text == " " && plus {
				want = "+"
			}
			if got := pct.Escape(text, plus); got != want {
				t.Errorf("P3.1: Escape(%q, %v) = %q, want %q", text, plus, got, want)
			}
		}
	}
}

func TestEscapeIsThatOfTheStandard(t *testing.T) {
	for _, text := range texts() {
		want := url.QueryEscape(text)
		if got := pct.Escape(text, true); got != want {
			t.Errorf("P3.1: Escape(%.60q, true) = %.60q, want %.60q", text, got, want)
		}
		want = strings.ReplaceAll(want, "+", "%20")
		if got := pct.Escape(text, false); got != want {
			t.Errorf("P3.1: Escape(%.60q, false) = %.60q, want %.60q", text, got, want)
		}
	}
}

func TestUnescapeExamples(t *testing.T) {
	mustUnescape(t, "P3.2", "a%2fb+c", true, "a/b c")
	mustUnescape(t, "P3.2", "a%2fb+c", false, "a/b+c")
	for _, text := range []string{"%4", "%", "%4g", "a b", "\x7f"} {
		mustNotUnescape(t, "P3.2", text)
	}
	for _, plus := range bothWays {
		mustUnescape(t, "P3.2", "", plus, "")
		mustUnescape(t, "P3.2", "%00%ff%C3", plus, "\x00\xff\xc3")
		mustUnescape(t, "P3.2", "%2B%20%25", plus, "+ %")
		mustUnescape(t, "P3.2", "%2541", plus, "%41")
		mustUnescape(t, "P3.2", "&=#?/\"\\", plus, "&=#?/\"\\")
	}
}

func TestUnescapeEveryByte(t *testing.T) {
	for number := range 256 {
		text := string([]byte{byte(number)})
		if number < 0x21 || number > 0x7e || text == "%" {
			for _, around := range []string{text, "ab" + text, text + "ab", "%41" + text + "%41"} {
				if text != "%" || around != text+"ab" { // these are an escape together
					mustNotUnescape(t, "P3.2", around)
				}
			}
			continue
		}
		mustUnescape(t, "P3.2", text, false, text)
		if text == "+" {
			text = " "
		}
		mustUnescape(t, "P3.2", string([]byte{byte(number)}), true, text)
	}
}

func TestUnescapeEveryPairOfDigits(t *testing.T) {
	const digits = "0123456789abcdef"
	for high := range 256 {
		for low := range 256 {
			text := "%" + string([]byte{byte(high), byte(low)})
			first := strings.Index(digits, strings.ToLower(text[1:2]))
			second := strings.Index(digits, strings.ToLower(text[2:3]))
			if first < 0 || second < 0 {
				mustNotUnescape(t, "P3.2", text)
				continue
			}
			for _, plus := range bothWays {
				mustUnescape(t, "P3.2", "a"+text+"b", plus, "a"+string([]byte{byte(16*first + second)})+"b")
			}
		}
	}
}

func TestUnescapeRefusesAnywhere(t *testing.T) {
	for _, wrong := range []string{"%", "%4", "%a", "%F"} {
		mustNotUnescape(t, "P3.2", wrong)
		mustNotUnescape(t, "P3.2", "abc"+wrong)
		mustNotUnescape(t, "P3.2", "%41"+wrong)
	}
	for _, wrong := range []string{"%g0", "%0g", "%%41", "%4%41", "% 4", "%+4", "%-1", "%0x", " ", "\x00", "\x1f", "\x7f", "\x80", "\xff", "\u00e9", "\r\n", "\t"} {
		mustNotUnescape(t, "P3.2", wrong)
		mustNotUnescape(t, "P3.2", "abc"+wrong)
		mustNotUnescape(t, "P3.2", wrong+"abc")
		mustNotUnescape(t, "P3.2", "%41"+wrong+"%41")
	}
}

func TestThereAndBack(t *testing.T) {
	for _, plus := range bothWays {
		for _, text := range texts() {
			written := pct.Escape(text, plus)
			if got, err := pct.Unescape(written, plus); got != text || err != nil {
				t.Errorf("P3.3: Unescape(Escape(%.60q, %v)) = %.60q, %v", text, plus, got, err)
			}
			mustBeNormal(t, written, plus)
		}
	}
}

// mustBeNormal fails if something stands in the text that Escape does not write.
func mustBeNormal(t *testing.T, text string, plus bool) {
	t.Helper()
	for at := 0; at < len(text); at++ {
		switch one := text[at : at+1]; {
		case strings.Contains(unreservedBytes, one), one == "+" && plus:
		case one == "%" && at+2 < len(text) && strings.Trim(text[at+1:at+3], "0123456789ABCDEF") == "":
			at += 2
		default:
			t.Errorf("P3.3: Escape with plus %v writes %q at %d", plus, one, at)
			return
		}
	}
}

func TestNormalForm(t *testing.T) {
	normal := map[string]string{"a%2fb": "a%2Fb", "%41%7e": "A~", "!": "%21", "a=b&c": "a%3Db%26c"}
	for text, want := range normal {
		for _, plus := range bothWays {
			read, err := pct.Unescape(text, plus)
			if got := pct.Escape(read, plus); got != want || err != nil {
				t.Errorf("P3.3: the normal form of %q is %q, %v, want %q", text, got, err, want)
			}
		}
	}
	for seed := range 5000 {
		text := mixed(seed, seed%7)
		for _, plus := range bothWays {
			if read, err := pct.Unescape(text, plus); err == nil {
				mustUnescape(t, "P3.3", pct.Escape(read, plus), plus, read)
			}
		}
	}
}
