package radix_test

import (
	"math/rand"
	"testing"

	"usher/api"
)

// noise is size bytes of all values, the same ones for the same seed.
func noise(seed, size int) string {
	b := make([]byte, size)
	rand.New(rand.NewSource(int64(seed))).Read(b)
	return string(b)
}

// everyByte is the 256 bytes, rising.
func everyByte() string {
	b := make([]byte, 256)
	for i := range b {
		b[i] = byte(i)
	}
	return string(b)
}

// texts are ordinary inputs: every length around multiples of three, of zeros, of ones and of noise, and all bytes.
func texts() []string {
	list := []string{everyByte(), "\r\n", "====", "Zg=="}
	for size := range 100 {
		zeros, ones := make([]byte, size), make([]byte, size)
		for i := range ones {
			ones[i] = 0xff
		}
		list = append(list, string(zeros), string(ones), noise(size, size))
	}
	for _, size := range []int{254, 255, 256, 257, 1023, 1024, 1025, 65536, 100001} {
		list = append(list, noise(size, size))
	}
	return list
}

type reader func(string) (string, error)

// mustRead fails unless read gives the bytes for the text.
func mustRead(t *testing.T, promise, name string, read reader, text, want string) {
	t.Helper()
	if got, err := read(text); got != want || err != nil {
		t.Errorf("%s: %s(%q) = %q, %v, want %q", promise, name, text, got, err, want)
	}
}

// mustRefuse fails unless read gives nothing and ErrText itself.
func mustRefuse(t *testing.T, promise, name string, read reader, texts ...string) {
	t.Helper()
	for _, text := range texts {
		if got, err := read(text); got != "" || err != api.ErrText {
			t.Errorf("%s: %s(%q) = %q, %v, want nothing and ErrText", promise, name, text, got, err)
		}
	}
}

// mustReadOnly holds read against write for every text of size bytes of the alphabet: it takes those that write gives for some bytes, and no others.
func mustReadOnly(t *testing.T, promise, name string, read reader, alphabet string, size int, written map[string]string) {
	t.Helper()
	text := make([]byte, size)
	var fill func(at int)
	fill = func(at int) {
		if at < size {
			for i := range len(alphabet) {
				text[at] = alphabet[i]
				fill(at + 1)
			}
			return
		}
		want, known := written[string(text)]
		got, err := read(string(text))
		if known && (got != want || err != nil) {
			t.Fatalf("%s: %s(%q) = %q, %v, want %q", promise, name, text, got, err, want)
		}
		if !known && (got != "" || err != api.ErrText) {
			t.Fatalf("%s: %s(%q) = %q, %v, want nothing and ErrText", promise, name, text, got, err)
		}
	}
	fill(0)
}

// writtenOf is what write gives for all texts of size bytes, and the bytes that each means.
func writtenOf(write func(string) string, size int) map[string]string {
	written := map[string]string{}
	for number := range 1 << (8 * size) {
		p := make([]byte, size)
		for i := range p {
			p[i] = byte(number >> (8 * i))
		}
		written[write(string(p))] = string(p)
	}
	return written
}

// mustNotPanic plays texts of any bytes and of letters mixed with others.
func mustNotPanic(t *testing.T, promise string, play func(text string)) {
	t.Helper()
	letters := "Zg8=-_+/09afAF\n\x00\xff "
	defer func() {
		if r := recover(); r != nil {
			t.Errorf("%s: a call panics: %v", promise, r)
		}
	}()
	random := rand.New(rand.NewSource(11))
	for size := range 40 {
		for range 200 {
			text := make([]byte, size)
			for i := range text {
				text[i] = letters[random.Intn(len(letters))]
			}
			play(string(text))
		}
		play(noise(size, size))
	}
	play(noise(1, 1<<20))
}
