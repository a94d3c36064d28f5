package radix_test

import (
	"encoding/base64"
	"strings"
	"testing"

	"usher/radix"
)

const stdAlphabet = "ABCDEFGHIJKLMNOPQRSTUVWXYZabcdefghijklmnopqrstuvwxyz0123456789+/"

func TestStdExamples(t *testing.T) {
	for _, c := range []struct{ p, s string }{
		{"", ""},
		{"f", "Zg=="},
		{"fo", "Zm8="},
		{"foo", "Zm9v"},
		{"\xff\xef", "/+8="},
	} {
		if got := radix.Std(c.p); got != c.s {
			t.Errorf("P2.3: Std(%q) = %q, want %q", c.p, got, c.s)
		}
		mustRead(t, "P2.4", "UnStd", radix.UnStd, c.s, c.p)
	}
	mustRefuse(t, "P2.4", "UnStd", radix.UnStd, "Zg", "Zg=", "Zh==", "====", "Zg==Zg==", "_-8=")
}

func TestStdLetters(t *testing.T) {
	for number := range 64 {
		p := string([]byte{byte(number << 2)})
		if got, want := radix.Std(p), stdAlphabet[number:number+1]+"A=="; got != want {
			t.Errorf("P2.3: Std(%q) = %q, want %q", p, got, want)
		}
		mustRead(t, "P2.4", "UnStd", radix.UnStd, stdAlphabet[number:number+1]+"A==", p)
	}
}

func TestStdIsTheStandards(t *testing.T) {
	for _, p := range texts() {
		got := radix.Std(p)
		if want := base64.StdEncoding.EncodeToString([]byte(p)); got != want {
			t.Errorf("P2.3: Std of %d bytes = %q, want %q", len(p), got, want)
		}
		if want := (len(p) + 2) / 3 * 4; len(got) != want {
			t.Errorf("P2.3: Std of %d bytes has %d letters, want %d", len(p), len(got), want)
		}
		mustRead(t, "P2.4", "UnStd", radix.UnStd, got, p)
	}
}

func TestStdOfTwoParts(t *testing.T) {
	p := noise(6, 60)
	for cut := 0; cut <= len(p); cut += 3 {
		for end := cut; end <= len(p); end++ {
			if got, want := radix.Std(p[:cut])+radix.Std(p[cut:end]), radix.Std(p[:end]); got != want {
				t.Errorf("P2.3: cut at %d of %d: %q, whole %q", cut, end, got, want)
			}
		}
	}
}

func TestUnStdTakesWhatStdWrites(t *testing.T) {
	short := "AEIQZgw048+/=-_\n"
	written := writtenOf(radix.Std, 1)
	for text, p := range writtenOf(radix.Std, 2) {
		written[text] = p
	}
	for size := 1; size < 4; size++ {
		mustReadOnly(t, "P2.4", "UnStd", radix.UnStd, short, size, nil)
	}
	for text, p := range wholeGroups(short) {
		written[text] = p
	}
	mustReadOnly(t, "P2.4", "UnStd", radix.UnStd, short, 4, written)
}

// wholeGroups is what the standard reads of four letters without padding.
func wholeGroups(letters string) map[string]string {
	groups := map[string]string{}
	for number := range 1 << 16 {
		text := string([]byte{letters[number&15], letters[number>>4&15], letters[number>>8&15], letters[number>>12]})
		if strings.ContainsAny(text, "=-_\n") {
			continue
		}
		p, err := base64.StdEncoding.Strict().DecodeString(text)
		if err == nil {
			groups[text] = string(p)
		}
	}
	return groups
}

func TestUnStdKeepsTheLastBits(t *testing.T) {
	for _, ahead := range []string{"", "Zm9v"} {
		for number := range 64 {
			two, three := ahead+"Q"+stdAlphabet[number:number+1]+"==", ahead+"QQ"+stdAlphabet[number:number+1]+"="
			if number%16 != 0 {
				mustRefuse(t, "P2.4", "UnStd", radix.UnStd, two)
			} else if _, err := radix.UnStd(two); err != nil {
				t.Errorf("P2.4: UnStd(%q): %v", two, err)
			}
			if number%4 != 0 {
				mustRefuse(t, "P2.4", "UnStd", radix.UnStd, three)
			} else if _, err := radix.UnStd(three); err != nil {
				t.Errorf("P2.4: UnStd(%q): %v", three, err)
			}
		}
	}
}

func TestUnStdRefusesOtherBytes(t *testing.T) {
	good := radix.Std(noise(9, 18))
	for b := range 256 {
		if strings.IndexByte(stdAlphabet, byte(b)) >= 0 {
			continue
		}
		for at := range len(good) {
			if b == '=' && at == len(good)-1 {
				continue
			}
			mustRefuse(t, "P2.4", "UnStd", radix.UnStd, good[:at]+string([]byte{byte(b)})+good[at+1:])
		}
		mustRefuse(t, "P2.4", "UnStd", radix.UnStd, good+string([]byte{byte(b)}), string([]byte{byte(b)})+good)
	}
}

func TestUnStdRefusesPadding(t *testing.T) {
	mustRefuse(t, "P2.4", "UnStd", radix.UnStd,
		"=", "==", "===", "========", "Z", "Z=", "Z==", "Z===", "Zm8", "Zm8==", "Zg===", "Zg====", "Zm9v=", "Zm9v==", "Zm9v====",
		"=Zg=", "==Zg", "Z=g=", "Zm=8", "Zg==Zm9v", "Zm8=Zm9v", "Zg==\n", "Zg\n==", "\nZg==", " Zg==", "Zg== ", "----", "____", strings.Repeat("=", 4000))
	for size := range 50 {
		whole := radix.Std(noise(size, size))
		bare := strings.TrimRight(whole, "=")
		for pads := range 9 {
			if text := bare + strings.Repeat("=", pads); text != whole {
				mustRefuse(t, "P2.4", "UnStd", radix.UnStd, text)
			}
		}
	}
}
