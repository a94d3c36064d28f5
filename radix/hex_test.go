package radix_test

import (
	"encoding/hex"
	"strings"
	"testing"

	"usher/radix"
)

func TestHexExamples(t *testing.T) {
	if got := radix.Hex("\x00\xff\x1a"); got != "00ff1a" {
		t.Errorf("P2.5: Hex(00 ff 1a) = %q, want 00ff1a", got)
	}
	if got := radix.Hex(""); got != "" {
		t.Errorf("P2.5: Hex of nothing = %q", got)
	}
	mustRead(t, "P2.6", "UnHex", radix.UnHex, "00ff1a", "\x00\xff\x1a")
	mustRead(t, "P2.6", "UnHex", radix.UnHex, "", "")
	mustRefuse(t, "P2.6", "UnHex", radix.UnHex, "00FF", "abc", "0g")
}

func TestHexIsTheStandards(t *testing.T) {
	for _, p := range texts() {
		got := radix.Hex(p)
		if want := hex.EncodeToString([]byte(p)); got != want {
			t.Errorf("P2.5: Hex of %d bytes = %q, want %q", len(p), got, want)
		}
		if len(got) != 2*len(p) {
			t.Errorf("P2.5: Hex of %d bytes has %d digits", len(p), len(got))
		}
		mustRead(t, "P2.6", "UnHex", radix.UnHex, got, p)
	}
}

func TestHexOfTwoParts(t *testing.T) {
	p := noise(7, 40)
	for cut := range len(p) + 1 {
		if got, want := radix.Hex(p[:cut])+radix.Hex(p[cut:]), radix.Hex(p); got != want {
			t.Errorf("P2.5: cut at %d: %q, whole %q", cut, got, want)
		}
	}
}

func TestUnHexTakesWhatHexWrites(t *testing.T) {
	mustReadOnly(t, "P2.6", "UnHex", radix.UnHex, everyByte(), 1, nil)
	mustReadOnly(t, "P2.6", "UnHex", radix.UnHex, everyByte(), 2, writtenOf(radix.Hex, 1))
	mustReadOnly(t, "P2.6", "UnHex", radix.UnHex, "0123456789abcdefABCDEFg", 3, nil)
	mustReadOnly(t, "P2.6", "UnHex", radix.UnHex, "0189afAFg/:`@ ", 4, writtenOf(radix.Hex, 2))
}

func TestUnHexRefuses(t *testing.T) {
	for size := 1; size < 100; size += 2 {
		mustRefuse(t, "P2.6", "UnHex", radix.UnHex, strings.Repeat("a", size))
	}
	mustRefuse(t, "P2.6", "UnHex", radix.UnHex,
		"A0", "0A", "aF", "DEADBEEF", "0x00", "00 ", " 00", "00\n", "0 ", "-1", "\x000", "0\xff", "é", "00=")
}
