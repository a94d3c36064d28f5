package terms_test

import (
	"math/rand"
	"slices"
	"strings"
	"testing"

	"usher/api"
	"usher/terms"
)

const alphabet = "a b c d e f g h i j k l m n o p q r s t u v w x y z"

func TestScopesInOrder(t *testing.T) {
	mustScopes(t, "a", "a")
	mustScopes(t, "b a", "a", "b")
	mustScopes(t, "a b", "a", "b")
	mustScopes(t, "b a b", "a", "b")
	mustScopes(t, "a a a", "a")
	mustScopes(t, "b B a A", "A", "B", "a", "b")
	mustScopes(t, "10 9 1 2", "1", "10", "2", "9")
	mustScopes(t, "~ ! ] [ #", "!", "#", "[", "]", "~")
	mustScopes(t, "read write offline_access read", "offline_access", "read", "write")
	mustScopes(t, "https://a.example/x:y", "https://a.example/x:y")
}

// TestBeginningsOfScopes: the shorter one of two stands first, wherever they come.
func TestBeginningsOfScopes(t *testing.T) {
	mustScopes(t, "abc ab a", "a", "ab", "abc")
	mustScopes(t, "a ab abc", "a", "ab", "abc")
	mustScopes(t, "ab b a abc aa ab", "a", "aa", "ab", "abc", "b")
	mustScopes(t, "a! a a#", "a", "a!", "a#")
	var l []string
	for size := range 16 {
		l = append(l, strings.Repeat("x", 17+size))
	}
	mustScopes(t, strings.Join(l, " "), l...)
	back := slices.Clone(l)
	slices.Reverse(back)
	mustScopes(t, strings.Join(back, " "), l...)
}

func TestSizesOfScopes(t *testing.T) {
	for size := range 40 {
		s := strings.Repeat("x", size)
		if size < 1 || size > 32 {
			mustNotScopes(t, s, api.ErrText)
			mustNotScopes(t, "a "+s, api.ErrText)
			mustNotScopes(t, s+" a", api.ErrText)
			continue
		}
		mustScopes(t, s, s)
		mustScopes(t, s+" a", "a", s)
		mustScopes(t, "a "+s, "a", s)
	}
	mustNotScopes(t, strings.Repeat("x", 1<<20), api.ErrText)
}

func TestBytesOfScopes(t *testing.T) {
	for n := range 256 {
		b := oneByte(n)
		may := n == 0x21 || 0x23 <= n && n <= 0x5b || 0x5d <= n && n <= 0x7e
		for _, s := range []string{b, "a" + b, b + "a", "a" + b + "c", strings.Repeat("x", 31) + b, b + strings.Repeat("x", 31)} {
			if may {
				mustScopes(t, s, s)
				continue
			}
			if n == ' ' && s == "a c" {
				continue
			}
			mustNotScopes(t, s, api.ErrText)
		}
	}
}

func TestBlanksBetweenScopes(t *testing.T) {
	for _, s := range []string{"", " ", "  ", " a", "a ", " a ", "a  b", "a b ", " a b", "a   b", "a b  c", "a\tb", "a\nb", "a\u00a0b", "a, b\"", "a\x00b"} {
		mustNotScopes(t, s, api.ErrText)
	}
	mustScopes(t, "a,b", "a,b")
	mustScopes(t, "a+b", "a+b")
	mustScopes(t, "a%20b", "a%20b")
}

func TestHowManyScopes(t *testing.T) {
	mustScopes(t, alphabet[:31], strings.Fields(alphabet[:31])...)
	mustScopes(t, alphabet[:31]+" "+alphabet[:31], strings.Fields(alphabet[:31])...)
	mustNotScopes(t, alphabet[:33], api.ErrMany)
	mustNotScopes(t, alphabet, api.ErrMany)
	mustNotScopes(t, alphabet[:31]+strings.Repeat(" a", 50)+" q", api.ErrMany)
	for _, count := range []int{1, 2, 16, 17, 18, 32, 33, 1000} {
		mustScopes(t, strings.Repeat("x ", count-1)+"x", "x")
		mustScopes(t, strings.Repeat("x ", count)+"y", "x", "y")
	}
	for count := 1; count < 40; count++ {
		l := words(count)
		s := strings.Join(l, " ")
		slices.Sort(l)
		if count > 16 {
			mustNotScopes(t, s, api.ErrMany)
			mustNotScopes(t, s+" "+s, api.ErrMany)
			continue
		}
		mustScopes(t, s, l...)
		mustScopes(t, s+" "+s, l...)
	}
}

// TestTextAheadOfMany: where both refusals apply, the first is the answer, wherever the wrong scope stands.
func TestTextAheadOfMany(t *testing.T) {
	for _, wrong := range []string{"\"", "\\", "", "\xff", "a\tb", strings.Repeat("x", 33)} {
		for _, many := range []string{alphabet[:33], alphabet, strings.Join(words(1000), " ")} {
			mustNotScopes(t, many+" "+wrong, api.ErrText)
			mustNotScopes(t, wrong+" "+many, api.ErrText)
			first, rest, _ := strings.Cut(many, " ")
			mustNotScopes(t, first+" "+wrong+" "+rest, api.ErrText)
		}
	}
}

func TestChangedScopes(t *testing.T) {
	play := func(s string) { mustScopesAsExpected(t, s) }
	for _, s := range []string{"a", "b a b", "read write", "p o n m l k j i h g f e d c b a", strings.Repeat("x", 32) + " " + strings.Repeat("y", 32)} {
		changedAt(s, play)
	}
	grow("", []string{" ", "a", "b", "\"", "~", strings.Repeat("x", 16)}, 6, play)
}

func TestDrawnScopes(t *testing.T) {
	random := rand.New(rand.NewSource(93))
	for round := range 20000 {
		mustScopesAsExpected(t, noise(random, "ab ", round%60))
		mustScopesAsExpected(t, noise(random, everyByte(), round%9))
		var l []string
		for range random.Intn(40) {
			l = append(l, one(random, noise(random, "ab", 1+random.Intn(3)), noise(random, everyByte()[0x23:0x5c], 1+random.Intn(32)), oneByte('a'+random.Intn(20))))
		}
		mustScopesAsExpected(t, strings.Join(l, " "))
	}
}

func TestScopeText(t *testing.T) {
	mustScopeText(t, "")
	mustScopeText(t, "a", "a")
	mustScopeText(t, "a b", "a", "b")
	mustScopeText(t, "b a b", "b", "a", "b")
	mustScopeText(t, "", "")
	mustScopeText(t, " ", "", "")
	mustScopeText(t, "  ", " ", "")
	mustScopeText(t, "x y", "x y")
	mustScopeText(t, "\" \\ \x00\xff é", "\"", "\\", "\x00\xff", "é")
	mustScopeText(t, strings.Repeat("x", 40)+" "+everyByte(), strings.Repeat("x", 40), everyByte())
	mustScopeText(t, strings.Repeat("y ", 999)+"y", slices.Repeat([]string{"y"}, 1000)...)
	for _, none := range [][]string{nil, {}} {
		mustScopeText(t, "", none...)
	}
}

// mustComeBack reads scopes again out of what was written for them.
func mustComeBack(t *testing.T, s string) {
	t.Helper()
	l, err := terms.Scopes(s)
	if err != nil {
		return
	}
	again, err := terms.Scopes(terms.ScopeText(l))
	if !slices.Equal(again, l) || err != nil {
		t.Errorf("P9.4: of %q, read out of %q, is read again %q, %v", l, s, again, err)
	}
}

func TestScopesAreReadBack(t *testing.T) {
	for _, s := range []string{"a", "b a b", "ab a abc b B", "! # [ ] ~", alphabet[:31], strings.Repeat("x", 32), strings.Repeat("x ", 99) + "y"} {
		mustComeBack(t, s)
		l, _ := terms.Scopes(s)
		mustScopes(t, terms.ScopeText(l), l...)
	}
	grow("", []string{"a", "b ", " a", "~", "! "}, 6, func(s string) { mustComeBack(t, s) })
}
