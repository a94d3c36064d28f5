package terms_test

import (
	"math/rand"
	"strings"
	"testing"

	"usher/terms"
)

func TestSizesOfNamesAndStates(t *testing.T) {
	for size := range 600 {
		s := strings.Repeat("x", size)
		mustName(t, s, 1 <= size && size <= 64)
		mustState(t, s, 1 <= size && size <= 512)
		mustState(t, strings.Repeat(" ", size), 1 <= size && size <= 512)
	}
	for _, size := range []int{1 << 10, 1 << 16, 1 << 20} {
		mustName(t, strings.Repeat("x", size), false)
		mustState(t, strings.Repeat("x", size), false)
	}
}

// TestBytesOfNamesAndStates lays each byte alone, at both ends and amid others, up to the most that may be.
func TestBytesOfNamesAndStates(t *testing.T) {
	for n := range 256 {
		b := oneByte(n)
		inName, inState := 0x21 <= n && n <= 0x7e, 0x20 <= n && n <= 0x7e
		for _, size := range []int{0, 1, 31, 32} {
			x := strings.Repeat("x", size)
			for _, s := range []string{b + x, x + b, x[:size/2] + b + x[size/2:], b + x + b} {
				mustName(t, s, inName)
				mustState(t, s, inState)
			}
		}
		for _, at := range []int{0, 1, 255, 510, 511} {
			mustState(t, strings.Repeat("~", at)+b+strings.Repeat(" ", 511-at), inState)
		}
	}
}

func TestNamesThatMayBe(t *testing.T) {
	for _, s := range []string{"a", "ann", "a:b", "~!", "\"", "\\", "%00", "?&=", everyByte()[0x21 : 0x21+64], everyByte()[0x7f-64 : 0x7f]} {
		mustName(t, s, true)
		mustState(t, s, true)
	}
	mustState(t, everyByte()[0x20:0x7f], true)
	for _, s := range []string{"a b", " a", "a ", " ", "  "} {
		mustName(t, s, false)
		mustState(t, s, true)
	}
	for _, s := range []string{"é", "a\n", "\na", "a\x00", "\x7f", "\x1f", "\xff", "\u00a0", "\ufeff", "\u212a", everyByte()} {
		mustName(t, s, false)
		mustState(t, s, false)
	}
}

func TestNoiseAsNameAndState(t *testing.T) {
	random := rand.New(rand.NewSource(91))
	visible := everyByte()[0x20:0x7f]
	for round := range 20000 {
		for _, s := range []string{noise(random, visible, round%70), noise(random, visible, 500+round%20), noise(random, everyByte()[0x1e:0x81], round%12)} {
			if got, want := terms.Name(s), wholeName.MatchString(wide(s)); got != want {
				t.Errorf("P9.1: Name(%q) = %v", s, got)
			}
			if got, want := terms.State(s), expectedState(s); got != want {
				t.Errorf("P9.2: State(%q) = %v", s, got)
			}
		}
	}
}
