package radix_test

import (
	"encoding/base64"
	"strings"
	"testing"

	"usher/radix"
)

const urlAlphabet = "ABCDEFGHIJKLMNOPQRSTUVWXYZabcdefghijklmnopqrstuvwxyz0123456789-_"

func TestUrlExamples(t *testing.T) {
	for _, c := range []struct{ p, s string }{
		{"", ""},
		{"f", "Zg"},
		{"fo", "Zm8"},
		{"foo", "Zm9v"},
		{"foob", "Zm9vYg"},
		{"fooba", "Zm9vYmE"},
		{"foobar", "Zm9vYmFy"},
		{"\xff\xef", "_-8"},
		{"\x00\x00\x00\x00", "AAAAAA"},
	} {
		if got := radix.Url(c.p); got != c.s {
			t.Errorf("P2.1: Url(%q) = %q, want %q", c.p, got, c.s)
		}
		mustRead(t, "P2.2", "UnUrl", radix.UnUrl, c.s, c.p)
	}
	mustRefuse(t, "P2.2", "UnUrl", radix.UnUrl, "Zh", "Zg==", "A", "Zm9v\n", "/+8")
}

func TestUrlLetters(t *testing.T) {
	for number := range 64 {
		p := string([]byte{byte(number << 2)})
		if got, want := radix.Url(p), urlAlphabet[number:number+1]+"A"; got != want {
			t.Errorf("P2.1: Url(%q) = %q, want %q", p, got, want)
		}
		mustRead(t, "P2.2", "UnUrl", radix.UnUrl, urlAlphabet[number:number+1]+"A", p)
	}
}

func TestUrlIsTheStandards(t *testing.T) {
	for _, p := range texts() {
		got := radix.Url(p)
		if want := base64.RawURLEncoding.EncodeToString([]byte(p)); got != want {
			t.Errorf("P2.1: Url of %d bytes = %q, want %q", len(p), got, want)
		}
		if want := (8*len(p) + 5) / 6; len(got) != want {
			t.Errorf("P2.1: Url of %d bytes has %d letters, want %d", len(p), len(got), want)
		}
		mustRead(t, "P2.2", "UnUrl", radix.UnUrl, got, p)
	}
}

func TestUrlOfTwoParts(t *testing.T) {
	p := noise(5, 60)
	for cut := 0; cut <= len(p); cut += 3 {
		for end := cut; end <= len(p); end++ {
			if got, want := radix.Url(p[:cut])+radix.Url(p[cut:end]), radix.Url(p[:end]); got != want {
				t.Errorf("P2.1: cut at %d of %d: %q, whole %q", cut, end, got, want)
			}
		}
	}
}

func TestUnUrlTakesWhatUrlWrites(t *testing.T) {
	mustReadOnly(t, "P2.2", "UnUrl", radix.UnUrl, everyByte(), 1, nil)
	mustReadOnly(t, "P2.2", "UnUrl", radix.UnUrl, everyByte(), 2, writtenOf(radix.Url, 1))
	mustReadOnly(t, "P2.2", "UnUrl", radix.UnUrl, urlAlphabet+"=+/\n", 3, writtenOf(radix.Url, 2))
}

func TestUnUrlKeepsTheLastBits(t *testing.T) {
	for _, ahead := range []string{"", "Zm9v", strings.Repeat("A", 400)} {
		for number := range 64 {
			two, three := ahead+"Q"+urlAlphabet[number:number+1], ahead+"QQ"+urlAlphabet[number:number+1]
			if number%16 != 0 {
				mustRefuse(t, "P2.2", "UnUrl", radix.UnUrl, two)
			} else if _, err := radix.UnUrl(two); err != nil {
				t.Errorf("P2.2: UnUrl(%q): %v", two, err)
			}
			if number%4 != 0 {
				mustRefuse(t, "P2.2", "UnUrl", radix.UnUrl, three)
			} else if _, err := radix.UnUrl(three); err != nil {
				t.Errorf("P2.2: UnUrl(%q): %v", three, err)
			}
		}
	}
}

func TestUnUrlRefusesOtherBytes(t *testing.T) {
	good := radix.Url(noise(9, 16))
	for b := range 256 {
		if strings.IndexByte(urlAlphabet, byte(b)) >= 0 {
			continue
		}
		for at := range len(good) {
			mustRefuse(t, "P2.2", "UnUrl", radix.UnUrl, good[:at]+string([]byte{byte(b)})+good[at+1:])
		}
		mustRefuse(t, "P2.2", "UnUrl", radix.UnUrl, good+string([]byte{byte(b)}), string([]byte{byte(b)})+good)
	}
}

func TestUnUrlRefusesLengths(t *testing.T) {
	for size := 1; size < 200; size += 4 {
		mustRefuse(t, "P2.2", "UnUrl", radix.UnUrl, strings.Repeat("A", size))
	}
	mustRefuse(t, "P2.2", "UnUrl", radix.UnUrl,
		"=", "==", "====", "Zm8=", "Zm9v=", "Zm9v====", "Zg\r\n", "\nZg", "Zm9v\nZm9v", "Zm9v Zm9v", "Zm9vY", strings.Repeat("A", 42)+"B", "++++", "////")
}
