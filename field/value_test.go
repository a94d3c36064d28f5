package field_test

import (
	"math/rand"
	"strings"
	"testing"

	"usher/api"
	"usher/field"
)

const tokenBytes = "ABCDEFGHIJKLMNOPQRSTUVWXYZabcdefghijklmnopqrstuvwxyz0123456789!#$%&'*+-.^_|~`"

func TestTokenOfEveryByte(t *testing.T) {
	count := 0
	for n := range 256 {
		char := oneByte(n)
		want := strings.Contains(tokenBytes, char)
		for _, s := range []string{char, "a" + char, char + "a", "a" + char + "~", char + char} {
			if got := field.Token(s); got != want {
				t.Errorf("P6.1: Token(%q) = %v, want %v", s, got, want)
			}
		}
		if field.Token(char) {
			count++
		}
	}
	if count != 26+26+10+15 {
		t.Errorf("P6.1: %d token bytes", count)
	}
}

func TestTokenOfTexts(t *testing.T) {
	for s, want := range map[string]bool{"x-y!": true, "a b": false, "": false, " ": false, " a": false, "a ": false, "a\x00": false, "\u00e9": false, tokenBytes: true, tokenBytes + "=": false, "\"a\"": false} {
		if got := field.Token(s); got != want {
			t.Errorf("P6.1: Token(%q) = %v, want %v", s, got, want)
		}
	}
	random := rand.New(rand.NewSource(1))
	for size := range 300 {
		for _, s := range []string{noise(random, tokenBytes, size), noise(random, tokenBytes+" ", size), noise(random, everyByte(), size%4)} {
			if got, want := field.Token(s), wholeToken.MatchString(wide(s)); got != want {
				t.Errorf("P6.1: Token(%q) = %v, want %v", s, got, want)
			}
		}
	}
}

func TestValueOfEveryByte(t *testing.T) {
	for n := range 256 {
		char := oneByte(n)
		isWhite := n == 0x20 || n == 0x09
		inside := n == 0x09 || n >= 0x20 && n <= 0x7e || n >= 0x80
		for s, want := range map[string]bool{
			"a" + char + "b": inside, "a" + char + char + "b": inside, "\xff" + char + "~": inside,
			char: inside && !isWhite, char + "b": inside && !isWhite, "a" + char: inside && !isWhite, char + " " + char: inside && !isWhite,
		} {
			if got := field.Value(s); got != want {
				t.Errorf("P6.2: Value(%q) = %v, want %v", s, got, want)
			}
		}
	}
}

func TestValueOfTexts(t *testing.T) {
	for s, want := range map[string]bool{"a\tb": true, " a": false, "\u00e9": true, "": true, " ": false, "\t": false, "  ": false, "a ": false, "a\t": false, "\ta": false, "a \t b": true, "a\r\nb": false, "a\n": false, "a\x00b": false, "a\x7fb": false, "\u00a0a": true, "\x80": true, "\xff": true} {
		if got := field.Value(s); got != want {
			t.Errorf("P6.2: Value(%q) = %v, want %v", s, got, want)
		}
	}
	grow("", []string{" ", "\t", "a", "\x80", "\n", "\x7f"}, 5, func(s string) {
		want := wholeValue.MatchString(wide(s)) && !whiteEnds.MatchString(wide(s))
		if got := field.Value(s); got != want {
			t.Errorf("P6.2: Value(%q) = %v, want %v", s, got, want)
		}
	})
}

func TestTrim(t *testing.T) {
	for s, want := range map[string]string{"\t a b ": "a b", "": "", " ": "", "\t": "", " \t \t": "", "a": "a", "a\t b": "a\t b", "\na\n": "\na\n", "\r\n a \r\n": "\r\n a \r\n", "\x00 a": "\x00 a", "\u00a0a\u00a0": "\u00a0a\u00a0", " \u2003 ": "\u2003", "\va\f": "\va\f"} {
		if got := field.Trim(s); got != want {
			t.Errorf("P6.3: Trim(%q) = %q, want %q", s, got, want)
		}
	}
}

func TestTrimAtBothEnds(t *testing.T) {
	for n := range 256 {
		char := oneByte(n)
		if char == " " || char == "\t" {
			continue
		}
		grow("", []string{" ", "\t"}, 3, func(ends string) {
			for _, kept := range []string{char, char + " " + char, char + "\t \t" + char} {
				for _, s := range []string{kept, ends + kept, kept + ends, ends + kept + ends} {
					if got := field.Trim(s); got != kept {
						t.Errorf("P6.3: Trim(%q) = %q, want %q", s, got, kept)
					}
				}
			}
		})
	}
}

func TestLookup(t *testing.T) {
	l := pairs("Host", "a", "HOST", "b", "x", "", "X", "later", "@", "at", "\u00c9", "e", "", "none", "k", "kelvin", "s", "", "S", "")
	for _, c := range []struct {
		name, want string
		count      int
	}{
		{"hOsT", "a", 2}, {"host", "a", 2}, {"HOST", "a", 2}, {"hos", "", 0}, {"hostt", "", 0}, {" host", "", 0},
		{"x", "", 2}, {"X", "", 2}, {"@", "at", 1}, {"`", "", 0}, {"\u00c9", "e", 1}, {"\u00e9", "", 0}, {"", "none", 1},
		{"\u212a", "", 0}, {"K", "kelvin", 1}, {"\u017f", "", 0}, {"s", "", 2}, {"y", "", 0},
	} {
		if got, count := field.Lookup(l, c.name); got != c.want || count != c.count {
			t.Errorf("P6.4: Lookup(%q) = %q, %d, want %q, %d", c.name, got, count, c.want, c.count)
		}
	}
	for _, none := range [][]api.Pair{nil, {}} {
		if got, count := field.Lookup(none, ""); got != "" || count != 0 {
			t.Errorf("P6.4: Lookup in no pairs = %q, %d", got, count)
		}
	}
}

// TestLookupOfEveryTwoBytes holds each byte against each: the same are those that differ in the case of a letter alone.
func TestLookupOfEveryTwoBytes(t *testing.T) {
	const large, small = "ABCDEFGHIJKLMNOPQRSTUVWXYZ", "abcdefghijklmnopqrstuvwxyz"
	for n := range 256 {
		for m := range 256 {
			a, b := oneByte(n), oneByte(m)
			want := 0
			i, j := strings.Index(large, a), strings.Index(small, a)
			if a == b || i >= 0 && small[i:i+1] == b || j >= 0 && large[j:j+1] == b {
				want = 1
			}
			if got, count := field.Lookup(pairs("x"+a+"Y", "v"), "X"+b+"y"); count != want || got != "v"[:want] {
				t.Errorf("P6.4: Lookup of %q among %q = %q, %d, want %d", b, a, got, count, want)
			}
		}
	}
}
