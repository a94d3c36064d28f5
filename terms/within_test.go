package terms_test

import (
	"slices"
	"strings"
	"testing"

	"usher/terms"
)

func mustWithin(t *testing.T, a, b []string, want bool) {
	t.Helper()
	if got := terms.Within(a, b); got != want {
		t.Errorf("P9.5: Within(%q, %q) = %v", a, b, got)
	}
}

func TestWithin(t *testing.T) {
	for _, c := range []struct {
		a, b string
		want bool
	}{
		{"a", "a", true}, {"a", "a,b", true}, {"a", "b,a", true}, {"a,a", "b,a", true}, {"b,a", "a,b", true}, {"a", "a,a", true}, {"c,a,b,a", "b,x,a,c", true},
		{"a", "b", false}, {"a,b", "a", false}, {"b,a", "a", false}, {"a,c", "a,b", false}, {"a,b,c", "c,b", false}, {"a", "ab", false}, {"ab", "a,b", false}, {"b", "ab", false}, {"a", "A", false}, {"A", "a", false},
		{"a", "a ", false}, {"é", "e\u0301", false}, {"\xff", "\xfe", false}, {"\xff", "\ufffd", false}, {"\xff", "\xfe,\xff", true}, {"a\x00", "a", false}, {"", "a", false}, {"", "", true}, {"", "a,", true}, {",a", "a,", true}, {"a b", "a,b", false},
	} {
		mustWithin(t, strings.Split(c.a, ","), strings.Split(c.b, ","), c.want)
	}
	for _, none := range [][]string{nil, {}} {
		for _, b := range [][]string{nil, {}, {"a"}, {""}} {
			mustWithin(t, none, b, true)
		}
		mustWithin(t, []string{"a"}, none, false)
		mustWithin(t, []string{""}, none, false)
	}
}

// TestWithinEveryPair holds all short lists against each other.
func TestWithinEveryPair(t *testing.T) {
	var lists [][]string
	grow("", []string{"a,", "b,", "ab,", ","}, 3, func(s string) {
		list := strings.Split(s, ",")
		lists = append(lists, list[:len(list)-1])
	})
	for _, a := range lists {
		for _, b := range lists {
			want := true
			for _, text := range a {
				want = want && slices.Index(b, text) >= 0
			}
			mustWithin(t, a, b, want)
		}
	}
}

func TestWithinLongLists(t *testing.T) {
	long := words(2000)
	mustWithin(t, long[:1000], long, true)
	mustWithin(t, long[1999:], long, true)
	mustWithin(t, long, long[:1999], false)
	mustWithin(t, long, long[1:], false)
	mustWithin(t, slices.Repeat([]string{"x"}, 1<<20), []string{"x"}, true)
}
