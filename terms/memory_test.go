package terms_test

import (
	"math/rand"
	"slices"
	"strings"
	"sync"
	"testing"

	"usher/api"
	"usher/terms"
)

// spoil writes a list of scopes full, its spare room too.
func spoil(l []string) {
	l = l[:cap(l)]
	for i := range l {
		l[i] = "written over"
	}
	_ = append(l, "one more")
}

// TestWhatIsHandedInStaysAsItWas looks at the spare room behind the lists too.
func TestWhatIsHandedInStaysAsItWas(t *testing.T) {
	for count := range 40 {
		a, b := words(count+6), words(2*count+6)
		slices.Reverse(b)
		beforeA, beforeB := slices.Clone(a), slices.Clone(b)
		terms.ScopeText(a[:count])
		terms.Within(a[:count], b[:2*count])
		terms.Within(b[:2*count], a[:count])
		terms.Within(a[:count], a[:count])
		terms.Scopes(terms.ScopeText(a[:count]))
		if !slices.Equal(a, beforeA) || !slices.Equal(b, beforeB) {
			t.Errorf("P9.10: of %q and %q are left %q and %q", beforeA, beforeB, a, b)
		}
		l := numbered(count + 6)
		before := slices.Clone(l)
		for _, to := range []string{"https://a", "https://a?", "https://a?k", "http://a"} {
			terms.Answer(to, l[:count])
		}
		if !slices.Equal(l, before) {
			t.Errorf("P9.10: of %q is left %q", before, l)
		}
	}
}

func TestScopesAreNew(t *testing.T) {
	for count := 1; count <= 16; count++ {
		want := words(count)
		text := strings.Join(want, " ")
		slices.Reverse(want)
		for _, s := range []string{text, text + " " + text, strings.Repeat(text+" ", 20) + text} {
			lists := make([][]string, 4)
			for i := range lists {
				lists[i], _ = terms.Scopes(s)
			}
			spoil(lists[1])
			spoil(lists[3])
			for _, i := range []int{0, 2} {
				if !slices.Equal(lists[i], want) {
					t.Errorf("P9.10: list %d is now %q, want %q", i, lists[i], want)
				}
			}
			mustScopes(t, s, want...)
		}
	}
}

// TestCallsKeepNothing makes right and wrong calls by turns, many at a time.
func TestCallsKeepNothing(t *testing.T) {
	scopes := []string{"a", "b"}
	code := pairs("code", "x y")
	var calls sync.WaitGroup
	for range 8 {
		calls.Go(func() {
			for range 200 {
				mustName(t, "ann", true)
				mustName(t, "a b", false)
				mustState(t, "a b", true)
				mustState(t, "", false)
				mustNotScopes(t, alphabet, api.ErrMany)
				mustScopes(t, "b a b", scopes...)
				mustNotScopes(t, "b a ", api.ErrText)
				mustScopeText(t, "a b", scopes...)
				mustWithin(t, scopes[:1], scopes, true)
				mustWithin(t, scopes, scopes[1:], false)
				mustRedirect(t, "https://a/cb?k")
				mustNotRedirect(t, "http://a/cb?k")
				mustAnswer(t, "https://a/cb?k", code, "https://a/cb?k&code=x+y")
				mustNotAnswer(t, "http://a/cb?k", code, api.ErrText)
				mustSplit(t, "/cb?k", "/cb", "k", true)
			}
		})
	}
	calls.Wait()
}

// TestLongTexts would not end in its time if a byte were looked at again and again.
func TestLongTexts(t *testing.T) {
	const size = 1 << 20
	for _, part := range []string{" ", "a", "a ", "b a ", "/", "?", ".", ":", "%", "%20", "[", "]", "https://", "a.", "\x00", "\xff", strings.Repeat("x", 32) + " "} {
		long := strings.Repeat(part, size/len(part))
		for _, s := range []string{long, long + "a", "a" + long, "https://" + long, "http://localhost" + long, "a.b:/" + long, "https://a?" + long} {
			terms.Name(s)
			terms.State(s)
			terms.Scopes(s)
			terms.Redirect(s)
			terms.Split(s)
			terms.Answer(s, pairs(s, s))
		}
		terms.Answer("https://a", pairs(long, long))
		terms.ScopeText([]string{long, long})
		terms.Within([]string{long}, []string{long[1:], long})
	}
	mustScopes(t, strings.Repeat("b a ", size/4)+"a", "a", "b")
	mustNotScopes(t, strings.Join(words(200000), " "), api.ErrMany)
	if got := terms.ScopeText(words(200000)); len(got) != 200000*9-1 {
		t.Errorf("P9.4: the text of 200000 scopes has %d bytes", len(got))
	}
}

// TestEveryCallEnds plays bytes of any kind, and those at which the rules turn.
func TestEveryCallEnds(t *testing.T) {
	defer func() {
		if r := recover(); r != nil {
			t.Errorf("P9.10: a call panics: %v", r)
		}
	}()
	random := rand.New(rand.NewSource(99))
	for round := range 20000 {
		for _, s := range []string{noise(random, everyByte(), round%120), noise(random, "a.:/?[]%", round%20), "https://" + noise(random, "a-.:1/?[]%", round%20), "http://localhost" + noise(random, ":1/?%a", round%9), "a.b:" + noise(random, "/?%2", round%9)} {
			mustRedirectAsExpected(t, s)
			mustScopesAsExpected(t, s)
			mustAnswerAsExpected(t, s, pairs(s, s))
			terms.Name(s)
			terms.State(s)
			terms.Split(s)
			mustScopeText(t, s+" "+s, s, s)
			mustWithin(t, []string{s}, []string{"other", s}, true)
		}
	}
}
