package pct_test

import (
	"slices"
	"strings"
	"testing"

	"usher/api"
	"usher/pct"
)

// TestListsHandedInStay looks at the spare room behind the list too.
func TestListsHandedInStay(t *testing.T) {
	for _, count := range []int{0, 1, 5, 32, 40} {
		room := somePairs(7, count+8)
		before := slices.Clone(room)
		pct.Form(room[:count])
		pct.Get(room[:count], room[0].Name)
		pct.Get(room[:count], "no such name")
		if !slices.Equal(room, before) {
			t.Errorf("P3.8: a list of %d pairs that was handed in has changed", count)
		}
	}
}

// overwrite writes a list full, to the end of its spare room.
func overwrite(list []api.Pair) {
	list = list[:cap(list)]
	for i := range list {
		list[i] = api.Pair{Name: "written", Value: "over"}
	}
}

func TestAnsweredListsAreNew(t *testing.T) {
	for _, count := range []int{1, 2, 3, 17, 32} {
		want := somePairs(9, count)
		text := pct.Form(want)
		first, _ := pct.Pairs(text)
		second, _ := pct.Pairs(text)
		overwrite(first)
		if !slices.Equal(second, want) {
			t.Errorf("P3.8: two answers of %d pairs share memory", count)
		}
		mustPairs(t, "P3.8", text, want...)
	}
}

// TestLongTexts would not end in its time if a call were not linear.
func TestLongTexts(t *testing.T) {
	const size = 1 << 22
	long := noise(3, size)
	written := pct.Escape(long, true)
	mustBeNormal(t, written, true)
	if got, err := pct.Unescape(written, true); got != long || err != nil {
		t.Errorf("P3.8: a text of %d bytes does not come back: %v", size, err)
	}
	if list, err := pct.Pairs(strings.Repeat("&", size) + "a=" + written); len(list) != 1 || err != nil {
		t.Errorf("P3.8: a form of one long pair: %d pairs, %v", len(list), err)
	}
	if _, err := pct.Pairs(strings.Repeat("x&", size)); err != api.ErrMany {
		t.Errorf("P3.8: a form of %d pieces: %v", size, err)
	}
	list := make([]api.Pair, size)
	if got := pct.Form(list); len(got) != 2*size-1 {
		t.Errorf("P3.8: a form of %d pairs has %d bytes", size, len(got))
	}
	for i := range list {
		list[i].Value = "v"
	}
	if got, count := pct.Get(list, ""); got != "v" || count != size {
		t.Errorf("P3.8: Get among %d pairs = %q, %d", size, got, count)
	}
}

// TestNothingPanics plays texts of the bytes at which the rules turn.
func TestNothingPanics(t *testing.T) {
	defer func() {
		if r := recover(); r != nil {
			t.Errorf("P3.1: a call panics: %v", r)
		}
	}()
	for seed := range 20000 {
		text := mixed(seed, seed%50)
		for _, plus := range bothWays {
			pct.Escape(text, plus)
			if got, err := pct.Unescape(text, plus); err != nil && (got != "" || err != api.ErrText) {
				t.Errorf("P3.2: Unescape(%q, %v) = %q, %v", text, plus, got, err)
			}
		}
		list, err := pct.Pairs(text)
		if err != nil && (len(list) != 0 || err != api.ErrText && err != api.ErrMany) {
			t.Errorf("P3.4: Pairs(%q) = %q, %v", text, list, err)
		}
		pct.Form(list)
		pct.Get(list, text)
	}
}
