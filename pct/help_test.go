package pct_test

import (
	"math/rand"
	"slices"
	"testing"

	"usher/api"
	"usher/pct"
)

const unreservedBytes = "ABCDEFGHIJKLMNOPQRSTUVWXYZabcdefghijklmnopqrstuvwxyz0123456789-._~"

var bothWays = []bool{true, false}

// noise is size bytes of all values, the same ones for the same seed.
func noise(seed, size int) string {
	b := make([]byte, size)
	rand.New(rand.NewSource(int64(seed))).Read(b)
	return string(b)
}

// mixed is size bytes of those at which the rules turn, the same ones for the same seed.
func mixed(seed, size int) string {
	const turns = "%%%%0249afgAFG&&==++ -~!\x00\x1f\x20\x21\x7e\x7f\x80\xff"
	random := rand.New(rand.NewSource(int64(seed)))
	b := make([]byte, size)
	for i := range b {
		b[i] = turns[random.Intn(len(turns))]
	}
	return string(b)
}

// everyByte is the 256 bytes, rising.
func everyByte() string {
	b := make([]byte, 256)
	for i := range b {
		b[i] = byte(i)
	}
	return string(b)
}

// texts are ordinary inputs of any bytes.
func texts() []string {
	list := []string{"", everyByte(), "a b&c=d", "a b+c", "%41", "\u00e9\u20ac", "\r\n", "=", "&", "+", " ", "%"}
	for size := range 60 {
		list = append(list, noise(size, size), mixed(size, size))
	}
	return append(list, noise(1, 70000), mixed(1, 70000))
}

// somePairs is a list of so many pairs with any bytes in their names and values, the same ones for the same seed; names come again.
func somePairs(seed, count int) []api.Pair {
	random := rand.New(rand.NewSource(int64(seed)))
	var list []api.Pair
	for i := range count {
		pair := api.Pair{Name: noise(seed+i, random.Intn(12)), Value: mixed(seed+i, random.Intn(30))}
		if i > 0 && random.Intn(4) == 0 {
			pair.Name = list[random.Intn(i)].Name
		}
		list = append(list, pair)
	}
	return list
}

func mustUnescape(t *testing.T, promise, text string, plus bool, want string) {
	t.Helper()
	if got, err := pct.Unescape(text, plus); got != want || err != nil {
		t.Errorf("%s: Unescape(%q, %v) = %q, %v, want %q", promise, text, plus, got, err, want)
	}
}

// mustNotUnescape fails unless the text is refused both ways, with nothing beside the refusal.
func mustNotUnescape(t *testing.T, promise, text string) {
	t.Helper()
	for _, plus := range bothWays {
		if got, err := pct.Unescape(text, plus); got != "" || err != api.ErrText {
			t.Errorf("%s: Unescape(%q, %v) = %q, %v, want nothing and ErrText", promise, text, plus, got, err)
		}
	}
}

func mustPairs(t *testing.T, promise, text string, want ...api.Pair) {
	t.Helper()
	if got, err := pct.Pairs(text); !slices.Equal(got, want) || err != nil {
		t.Errorf("%s: Pairs(%q) = %q, %v, want %q", promise, text, got, err, want)
	}
}

func mustNotPairs(t *testing.T, promise, text string, want error) {
	t.Helper()
	if got, err := pct.Pairs(text); len(got) != 0 || err != want {
		t.Errorf("%s: Pairs(%q) = %q, %v, want nothing and %v", promise, text, got, err, want)
	}
}
