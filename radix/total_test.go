package radix_test

import (
	"testing"

	"usher/api"
	"usher/radix"
)

// ways are the three ways of writing, each with its own reading.
func ways() []struct {
	name  string
	write func(string) string
	read  reader
} {
	return []struct {
		name  string
		write func(string) string
		read  reader
	}{
		{"Url", radix.Url, radix.UnUrl},
		{"Std", radix.Std, radix.UnStd},
		{"Hex", radix.Hex, radix.UnHex},
	}
}

func TestEveryCallEnds(t *testing.T) {
	for _, way := range ways() {
		mustNotPanic(t, "P2.7", func(text string) {
			mustRead(t, "P2.7", "Un"+way.name, way.read, way.write(text), text)
			bytes, err := way.read(text)
			if err == nil && way.write(bytes) != text {
				t.Errorf("P2.7: Un%s(%q) = %q, which %s writes as %q", way.name, text, bytes, way.name, way.write(bytes))
			}
			if err != nil && (err != api.ErrText || bytes != "") {
				t.Errorf("P2.7: Un%s(%q) = %q, %v", way.name, text, bytes, err)
			}
		})
	}
}

func TestAnswersHangOnTheArgumentAlone(t *testing.T) {
	for _, way := range ways() {
		for _, p := range []string{"", "f", "fo", "foo", noise(2, 50)} {
			first := way.write(p)
			way.read("wrong!")
			way.write(noise(3, 77))
			if again := way.write(p); again != first {
				t.Errorf("P2.7: %s(%q) = %q, and then %q", way.name, p, first, again)
			}
			mustRead(t, "P2.7", "Un"+way.name, way.read, first, p)
			mustRead(t, "P2.7", "Un"+way.name, way.read, first, p)
		}
	}
}
