package field_test

import (
	"encoding/base64"
	"math/rand"
	"net/url"
	"strings"
	"testing"

	"usher/api"
	"usher/field"
)

func std(s string) string {
	return base64.StdEncoding.EncodeToString([]byte(s))
}

func TestTheExamplesOfBasic(t *testing.T) {
	if got := field.BasicOf("a", "b c"); got != "Basic YTpiK2M=" {
		t.Errorf("P6.10: BasicOf = %q", got)
	}
	mustBasic(t, "bAsIc  YTpiK2M=", "a", "b c")
	mustNotBasic(t, "Bearer x", api.ErrScheme)
	for _, v := range []string{"Basic", "Basic YQ==", " Basic YTpi", "Basic YTpi "} {
		mustNotBasic(t, v, api.ErrText)
	}
}

func TestSchemes(t *testing.T) {
	for _, scheme := range []string{"Basic", "basic", "BASIC", "bAsIc", "BaSiC"} {
		mustBasic(t, scheme+" YTpi", "a", "b")
	}
	for _, scheme := range []string{"Bearer", "B", "Basi", "Basicx", "xBasic", "Basic1", "Basic-", "Digest", "!", "~", "BasicYTpi", "Basic'"} {
		mustNotBasic(t, scheme, api.ErrScheme)
		mustNotBasic(t, scheme+" YTpi", api.ErrScheme)
		mustNotBasic(t, scheme+"\t", api.ErrScheme)
		mustNotBasic(t, scheme+"/YTpi", api.ErrScheme)
	}
	for _, v := range []string{"", " ", "\t", "=", "/Basic YTpi", "(Basic) YTpi", "\"Basic\" YTpi", "\xff", "\u00e9 YTpi", "\x00Basic YTpi"} {
		mustNotBasic(t, v, api.ErrText)
	}
	// The long s is no letter of a scheme: the scheme ends ahead of it.
	mustNotBasic(t, "Ba\u017fic YTpi", api.ErrScheme)
}

func TestEveryByteAsAScheme(t *testing.T) {
	for n := range 256 {
		char := oneByte(n)
		want := api.ErrText
		if strings.Contains(tokenBytes, char) {
			want = api.ErrScheme
		}
		mustNotBasic(t, char, want)
		mustNotBasic(t, char+" YTpi", want)
		mustNotBasic(t, char+"Basic YTpi", want)
		mustNotBasic(t, "Basic"+char, want)
		if char != " " {
			mustNotBasic(t, "Basic"+char+"YTpi", want)
			mustNotBasic(t, "Basic"+char+" YTpi", want)
		}
	}
}

func TestBlanksBehindTheScheme(t *testing.T) {
	for count := range 10 {
		blanks := strings.Repeat(" ", count+1)
		mustBasic(t, "Basic"+blanks+"YTpi", "a", "b")
		mustNotBasic(t, "Basic"+blanks, api.ErrText)
		mustNotBasic(t, "Basic"+blanks+"\tYTpi", api.ErrText)
		mustNotBasic(t, "Basic"+blanks+"YTpi"+blanks, api.ErrText)
		mustNotBasic(t, "Basic"+blanks+"YT"+blanks+"pi", api.ErrText)
	}
	mustNotBasic(t, "Basic\t", api.ErrText)
	mustNotBasic(t, "Basic\tYTpi", api.ErrText)
	mustNotBasic(t, "Basic\t YTpi", api.ErrText)
	mustNotBasic(t, "Basic\u00a0YTpi", api.ErrText)
}

func TestCredentials(t *testing.T) {
	mustBasic(t, "Basic "+std(":"), "", "")
	mustBasic(t, "Basic "+std("a:"), "a", "")
	mustBasic(t, "Basic "+std(":b"), "", "b")
	mustBasic(t, "Basic "+std("a:b:c"), "a", "b:c")
	mustBasic(t, "Basic "+std("::"), "", ":")
	mustBasic(t, "Basic "+std("%3a+:%41%00%ff+"), ": ", "A\x00\xff ")
	for _, both := range []string{"", "a", "ab", "%3a", "a b:c", "a:b c", "a\x00:b", "a:b\x7f", "\u00e9:b", "a:\xff", "%:b", "a:%", "%4:b", "a:%4", "a%4:1b", "a:%zz", "\t:b", "a\n:b"} {
		mustNotBasic(t, "Basic "+std(both), api.ErrText)
	}
	for _, text := range []string{"YTpiK2M", "YTpiK2M==", "YTpiK2N=", "YTpi=", "YTpi====", "YTp", "YTpi\n", "YTpi\r\nYTpi", "-TpiK2M=", "YTpi,", "YTpi YTpi", "=", "====", "a:b"} {
		mustNotBasic(t, "Basic "+text, api.ErrText)
	}
}

func TestEveryByteInCredentials(t *testing.T) {
	for n := range 256 {
		char := oneByte(n)
		for _, both := range []string{char + ":", ":" + char, "x" + char + "y:z", "x:y" + char + "z", char, "%" + char + "1:", ":%1" + char} {
			mustBasicAsExpected(t, "Basic "+std(both))
		}
	}
}

func TestBasicWithOneByteChanged(t *testing.T) {
	for _, v := range []string{"Basic YTpiK2M=", "basic  Og==", field.BasicOf("app:1", "s3 %")} {
		changedAt(v, func(changed string) { mustBasicAsExpected(t, changed) })
	}
}

// TestBasicOfAndBack writes every byte in a user and in a password.
func TestBasicOfAndBack(t *testing.T) {
	texts := []string{"", ":", "::", "a", "a:b", ":c", " ", "+", "%", "%41", "%41+ ", "\x00\xff", everyByte(), "\u00e9\u20ac", "app-1", "~-._", "\r\n", "Basic "}
	for n := range 256 {
		texts = append(texts, oneByte(n), "a"+oneByte(n)+":")
	}
	random := rand.New(rand.NewSource(3))
	for size := range 60 {
		texts = append(texts, noise(random, everyByte(), size))
	}
	for i, user := range texts {
		for _, pass := range []string{texts[0], texts[(i*7+3)%len(texts)], user, ":", everyByte()} {
			got := field.BasicOf(user, pass)
			if want := "Basic " + std(url.QueryEscape(user)+":"+url.QueryEscape(pass)); got != want {
				t.Errorf("P6.10: BasicOf(%q, %q) = %q, want %q", user, pass, got, want)
			}
			mustBasic(t, got, user, pass)
		}
	}
}
