package field_test

import (
	"math/rand"
	"strings"
	"testing"

	"usher/api"
	"usher/field"
)

func TestTheExamplesOfCookies(t *testing.T) {
	mustReadCookies(t, "a=1; b=\"2\";; c=", "a", "1", "b", "2", "c", "")
	mustReadCookies(t, "a=\"\"", "a", "")
	mustReadCookies(t, " ; ;")
	for _, v := range []string{"a=1, b=2", "a", "a =1", "=1", "a=\""} {
		mustNotReadCookies(t, v, api.ErrText)
	}
}

func TestEveryByteInACookie(t *testing.T) {
	count := 0
	for n := range 256 {
		char := oneByte(n)
		isCookieByte := n >= 0x21 && n <= 0x7e && !strings.Contains("\",;\\", char)
		if isCookieByte {
			count++
			mustReadCookies(t, "a="+char, "a", char)
			mustReadCookies(t, "a=x"+char+"y", "a", "x"+char+"y")
			mustReadCookies(t, "a=\""+char+"\"", "a", char)
			mustWriteCookies(t, pairs("a", char), "a="+char)
			mustWriteCookies(t, pairs("b", "x", "a", char+char), "b=x; a="+char+char)
		} else {
			mustNotWriteCookies(t, pairs("a", char), api.ErrText)
			mustNotWriteCookies(t, pairs("a", "x"+char), api.ErrText)
			mustNotWriteCookies(t, pairs("b", "x", "a", char+"x"), api.ErrText)
		}
		if strings.Contains(tokenBytes, char) {
			mustReadCookies(t, char+"=1", char, "1")
			mustWriteCookies(t, pairs(char, "1"), char+"=1")
		} else {
			mustNotWriteCookies(t, pairs(char, "1"), api.ErrText)
			mustNotWriteCookies(t, pairs("a", "1", "x"+char, "1"), api.ErrText)
		}
		for _, v := range []string{"a=" + char, "a=x" + char + "y", "a=\"" + char + "\"", "a=\"x" + char, char + "=1", "a" + char + "=1", "a" + char + "b=1", char, "a=1" + char + "b=2", "a=1;" + char + "b=2", "a=1" + char} {
			mustReadCookiesAsExpected(t, v)
		}
	}
	if count != 90 {
		t.Errorf("P6.5: %d cookie bytes", count)
	}
}

func TestPiecesOfCookies(t *testing.T) {
	for _, none := range []string{"", " ", "\t", ";", ";;", " \t;\t ; ", strings.Repeat("; ", 100)} {
		mustReadCookies(t, none)
	}
	mustReadCookies(t, "a=1;a=2;A=3;a=1", "a", "1", "a", "2", "A", "3", "a", "1")
	mustReadCookies(t, "\t a=1 \t;\t b=2\t", "a", "1", "b", "2")
	mustReadCookies(t, "a=b=c;d==", "a", "b=c", "d", "=")
	mustReadCookies(t, ";;a=;;", "a", "")
	for _, v := range []string{"a", "a;b=1", "b=1;a", "b=1; a ;c=2", "=", "==", " =1", "a = 1", "a= 1", "a=1 2", "a=1\tb=2", "a=1\n;b=2", "a=\u00e9", "\u00e9=a", "a=\x00", "a=b,c", "a=\\", "a b=1", "a=1&b=2\x7f"} {
		mustNotReadCookies(t, v, api.ErrText)
	}
}

func TestQuotesInCookies(t *testing.T) {
	mustReadCookies(t, "a=\"b\"", "a", "b")
	mustReadCookies(t, " a=\"b\" ; c=\"\" ", "a", "b", "c", "")
	mustReadCookies(t, "a=\"b=c\"", "a", "b=c")
	for _, v := range []string{"a=\"", "a=\"b", "a=b\"", "a=\"\"\"", "a=\"\"\"\"", "a=\"b\"c", "a=b\"c\"", "a=\"b\"c\"", "a=\"b c\"", "a=\" \"", "a=\"b;c\"", "\"a\"=b", "\"a=b\"", "a= \"b\""} {
		mustNotReadCookies(t, v, api.ErrText)
	}
}

func TestHowManyCookies(t *testing.T) {
	for _, piece := range []string{"a=1", "a=", "a=\"\""} {
		for count := range 20 {
			full := strings.Repeat(piece+";", count)
			spread := strings.Repeat(" ;\t;"+piece+" ; ", count)
			for _, v := range []string{full, strings.TrimSuffix(full, ";"), spread} {
				got, err := field.Cookies(v)
				if count <= api.MaxCookies && (len(got) != count || err != nil) {
					t.Errorf("P6.5: %d cookies: %d, %v", count, len(got), err)
				}
				if count > api.MaxCookies && (len(got) != 0 || err != api.ErrMany) {
					t.Errorf("P6.5: %d cookies: %d, %v", count, len(got), err)
				}
			}
		}
	}
}

func TestTooManyCookiesComeAheadOfWrongOnes(t *testing.T) {
	sixteen := strings.Repeat("a=1;", 16)
	for _, wrong := range []string{"a", "=1", "a=\"", "a =1", "\xff", "a=,"} {
		mustNotReadCookies(t, wrong+";"+sixteen[4:], api.ErrText)
		mustNotReadCookies(t, sixteen[4:]+wrong, api.ErrText)
		mustNotReadCookies(t, wrong+";"+sixteen, api.ErrMany)
		mustNotReadCookies(t, sixteen+wrong, api.ErrMany)
		mustNotReadCookies(t, strings.Repeat(wrong+";", 17), api.ErrMany)
		mustNotReadCookies(t, strings.Repeat(wrong+";", 16), api.ErrText)
	}
}

func TestAllShortCookies(t *testing.T) {
	grow("", []string{"a", "=", ";", "\"", " ", "\t", ",", "\xff"}, 6, func(v string) {
		mustReadCookiesAsExpected(t, v)
	})
}

func TestCookiesWithOneByteChanged(t *testing.T) {
	for _, v := range []string{"a=1; b=\"2\";; c=", "sid=abc", strings.Repeat("a=1;", 15) + "b=\"2\"", strings.Repeat("a=;", 16)} {
		changedAt(v, func(changed string) { mustReadCookiesAsExpected(t, changed) })
	}
}

func TestCookieText(t *testing.T) {
	mustWriteCookies(t, nil, "")
	mustWriteCookies(t, []api.Pair{}, "")
	mustWriteCookies(t, pairs("a", "1"), "a=1")
	mustWriteCookies(t, pairs("a", ""), "a=")
	mustWriteCookies(t, pairs("a", "1", "b", "", "a", "2", "A", "="), "a=1; b=; a=2; A==")
	for _, l := range [][]api.Pair{pairs("", "1"), pairs("", ""), pairs("a", "1", "", ""), pairs("a b", "1"), pairs("a=", "1"), pairs("a;", "1"), pairs("a", "1;2"), pairs("a", "\""), pairs("a", "\"\""), pairs("a", " "), pairs("a", "1", "b", "\u00e9")} {
		mustNotWriteCookies(t, l, api.ErrText)
	}
}

func TestHowManyCookiesAreWritten(t *testing.T) {
	for count := range 20 {
		l := make([]api.Pair, count)
		for i := range l {
			l[i].Name = "a"
		}
		if count > api.MaxCookies {
			mustNotWriteCookies(t, l, api.ErrMany)
			mustNotWriteCookies(t, make([]api.Pair, count), api.ErrMany)
			continue
		}
		mustWriteCookies(t, l, strings.TrimSuffix(strings.Repeat("a=; ", count), "; "))
		if count > 0 {
			l[count-1].Value = ","
			mustNotWriteCookies(t, l, api.ErrText)
		}
	}
}

func TestCookiesThatAreWrittenAreReadBack(t *testing.T) {
	random := rand.New(rand.NewSource(2))
	var cookieBytes string
	for n := range 256 {
		if n >= 0x21 && n <= 0x7e && !strings.Contains("\",;\\", oneByte(n)) {
			cookieBytes += oneByte(n)
		}
	}
	for round := range 500 {
		var l []api.Pair
		var texts []string
		for range round % 17 {
			pair := api.Pair{Name: noise(random, tokenBytes, 1+random.Intn(9)), Value: noise(random, cookieBytes, random.Intn(20))}
			l = append(l, pair)
			texts = append(texts, pair.Name+"="+pair.Value)
		}
		mustWriteCookies(t, l, strings.Join(texts, "; "))
	}
}
