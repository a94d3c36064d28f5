package pct_test

import (
	"slices"
	"strings"
	"testing"

	"usher/api"
	"usher/pct"
)

func TestPairsExamples(t *testing.T) {
	mustPairs(t, "P3.4", "a=1&&b=2&", api.Pair{Name: "a", Value: "1"}, api.Pair{Name: "b", Value: "2"})
	mustPairs(t, "P3.4", "a=b=c&d", api.Pair{Name: "a", Value: "b=c"}, api.Pair{Name: "d"})
	mustPairs(t, "P3.4", "=&=x", api.Pair{}, api.Pair{Value: "x"})
	mustNotPairs(t, "P3.4", "a=%zz"+strings.Repeat("&x=1", 32), api.ErrMany)
}

func TestPairsOfPieces(t *testing.T) {
	for _, nothing := range []string{"", "&", "&&&&", strings.Repeat("&", 1000)} {
		mustPairs(t, "P3.4", nothing)
	}
	mustPairs(t, "P3.4", "=", api.Pair{})
	mustPairs(t, "P3.4", "==", api.Pair{Value: "="})
	mustPairs(t, "P3.4", "a", api.Pair{Name: "a"})
	mustPairs(t, "P3.4", "a=", api.Pair{Name: "a"})
	mustPairs(t, "P3.4", "&&a=1", api.Pair{Name: "a", Value: "1"})
	mustPairs(t, "P3.4", "b=2&a=1&b=1&b", api.Pair{Name: "b", Value: "2"}, api.Pair{Name: "a", Value: "1"}, api.Pair{Name: "b", Value: "1"}, api.Pair{Name: "b"})
	mustPairs(t, "P3.4", "a=1&a=1", api.Pair{Name: "a", Value: "1"}, api.Pair{Name: "a", Value: "1"})
	mustPairs(t, "P3.4", "a+b=c+d", api.Pair{Name: "a b", Value: "c d"})
	mustPairs(t, "P3.4", "a%2Bb=%00%ff", api.Pair{Name: "a+b", Value: "\x00\xff"})
	mustPairs(t, "P3.4", "%26%3d=%3D%26", api.Pair{Name: "&=", Value: "=&"})
	mustPairs(t, "P3.4", "a;b=1,2", api.Pair{Name: "a;b", Value: "1,2"})
}

func TestPairsRefusesWhatCannotBeRead(t *testing.T) {
	for _, wrong := range []string{"%", "%4", "%zz", "a b", "\x00", "\x1f", "\x7f", "\xff", "a%2"} {
		mustNotPairs(t, "P3.4", wrong, api.ErrText)
		mustNotPairs(t, "P3.4", wrong+"=1", api.ErrText)
		mustNotPairs(t, "P3.4", "a="+wrong, api.ErrText)
		mustNotPairs(t, "P3.4", "a=1&b="+wrong+"&c=2", api.ErrText)
		mustNotPairs(t, "P3.4", "a=1&"+wrong+"=b&c=2", api.ErrText)
	}
	// An escape does not reach over the end of a name or of a piece.
	mustNotPairs(t, "P3.4", "a%4=1", api.ErrText)
	mustNotPairs(t, "P3.4", "a=%4&1", api.ErrText)
}

func TestPairsLimit(t *testing.T) {
	for _, piece := range []string{"x=1", "x", "=", "=1", "x="} {
		full := strings.Repeat(piece+"&", api.MaxPairs)
		spread := strings.Repeat("&&"+piece+"&", api.MaxPairs) + "&&&"
		for _, text := range []string{full, spread} {
			if list, err := pct.Pairs(text); len(list) != api.MaxPairs || err != nil {
				t.Errorf("P3.4: %d pieces %q: %d pairs, %v", api.MaxPairs, piece, len(list), err)
			}
			mustNotPairs(t, "P3.4", text+piece, api.ErrMany)
			mustNotPairs(t, "P3.4", piece+"&&"+text, api.ErrMany)
		}
	}
	mustNotPairs(t, "P3.4", strings.Repeat("x&", 5000), api.ErrMany)
}

func TestPairsManyAheadOfText(t *testing.T) {
	rest := strings.Repeat("&x", api.MaxPairs-1)
	for _, wrong := range []string{"a=%zz", "%=1", "a b", "\xff"} {
		mustNotPairs(t, "P3.4", wrong+rest, api.ErrText)
		mustNotPairs(t, "P3.4", wrong+rest+"&x", api.ErrMany)
		mustNotPairs(t, "P3.4", "x"+rest+"&"+wrong, api.ErrMany)
	}
	mustNotPairs(t, "P3.4", strings.Repeat("%&", api.MaxPairs), api.ErrText)
	mustNotPairs(t, "P3.4", strings.Repeat("%&", api.MaxPairs+1), api.ErrMany)
}

func TestForm(t *testing.T) {
	for _, c := range []struct {
		list []api.Pair
		want string
	}{
		{[]api.Pair{{Name: "a", Value: "1 2"}, {}}, "a=1+2&="},
		{nil, ""},
		{[]api.Pair{}, ""},
		{[]api.Pair{{}}, "="},
		{[]api.Pair{{}, {}}, "=&="},
		{[]api.Pair{{Name: "a"}}, "a="},
		{[]api.Pair{{Value: "a"}}, "=a"},
		{[]api.Pair{{Name: "a&b c", Value: "=+%"}, {Name: "a&b c", Value: "\xff"}}, "a%26b+c=%3D%2B%25&a%26b+c=%FF"},
	} {
		if got := pct.Form(c.list); got != c.want {
			t.Errorf("P3.5: Form(%q) = %q, want %q", c.list, got, c.want)
		}
	}
}

func TestFormIsMadeOfEscape(t *testing.T) {
	for _, count := range []int{1, 2, 31, 32, 33, 1000} {
		list := somePairs(count, count)
		var parts []string
		for _, pair := range list {
			parts = append(parts, pct.Escape(pair.Name, true)+"="+pct.Escape(pair.Value, true))
		}
		if got, want := pct.Form(list), strings.Join(parts, "&"); got != want {
			t.Errorf("P3.5: Form of %d pairs = %.200q, want %.200q", count, got, want)
		}
	}
}

func TestFormIsReadBack(t *testing.T) {
	for count := range api.MaxPairs + 1 {
		list := somePairs(100+count, count)
		mustPairs(t, "P3.6", pct.Form(list), list...)
		mustPairs(t, "P3.6", pct.Form(make([]api.Pair, count)), make([]api.Pair, count)...)
	}
	every := []api.Pair{{Name: everyByte(), Value: everyByte()}}
	mustPairs(t, "P3.6", pct.Form(every), every...)
	mustNotPairs(t, "P3.6", pct.Form(somePairs(1, api.MaxPairs+1)), api.ErrMany)
}

func TestPairsOfTwoTexts(t *testing.T) {
	parts := []string{"", "&", "a", "a=1", "=", "&b=2&", "a=b=c&d", "+=%20", "a=1&a=2", strings.Repeat("x&", 16), strings.Repeat("y=z&", 31), strings.Repeat("=&", 32)}
	for _, first := range parts {
		for _, second := range parts {
			ahead, _ := pct.Pairs(first)
			behind, _ := pct.Pairs(second)
			both := slices.Concat(ahead, behind)
			if len(both) > api.MaxPairs {
				mustNotPairs(t, "P3.6", first+"&"+second, api.ErrMany)
				continue
			}
			mustPairs(t, "P3.6", first+"&"+second, both...)
		}
	}
}

func TestGet(t *testing.T) {
	list := []api.Pair{{Name: "a"}, {Name: "a", Value: "x"}, {Name: "b", Value: "y"}, {Name: "a", Value: "z"}, {Name: "c"}, {Name: "c"}, {Name: "A", Value: "large"}, {Value: "none"}, {Name: "d", Value: "1"}, {Name: "d"}, {Name: "e", Value: "v"}, {Name: "e", Value: "v"}, {Name: "e", Value: "u"}, {Name: "\xff", Value: "\x00"}}
	for _, c := range []struct {
		name, want string
		count      int
	}{
		{"a", "x", 2}, {"b", "y", 1}, {"c", "", 0}, {"A", "large", 1}, {"", "none", 1}, {"d", "1", 1}, {"e", "v", 3}, {"\xff", "\x00", 1},
		{"f", "", 0}, {"aa", "", 0}, {"B", "", 0}, {"a ", "", 0}, {"\ufffd", "", 0},
	} {
		if got, count := pct.Get(list, c.name); got != c.want || count != c.count {
			t.Errorf("P3.7: Get(%q) = %q, %d, want %q, %d", c.name, got, count, c.want, c.count)
		}
	}
	for _, none := range [][]api.Pair{nil, {}, {{}}, {{Name: "a"}}} {
		if got, count := pct.Get(none, "a"); got != "" || count != 0 {
			t.Errorf("P3.7: Get(%q, a) = %q, %d, want none", none, got, count)
		}
	}
	if got, count := pct.Get([]api.Pair{{}}, ""); got != "" || count != 0 {
		t.Errorf("P3.7: Get of an empty value = %q, %d, want none", got, count)
	}
}
