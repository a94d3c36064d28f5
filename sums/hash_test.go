package sums_test

import (
	"crypto/sha256"
	"reflect"
	"strings"
	"sync"
	"testing"

	"usher/sums"
)

func standardSha(text string) string {
	sum := sha256.Sum256([]byte(text))
	return string(sum[:])
}

func TestShaExamples(t *testing.T) {
	for _, c := range []struct{ text, sum string }{
		{"", "e3b0c44298fc1c149afbf4c8996fb92427ae41e4649b934ca495991b7852b855"},
		{"abc", "ba7816bf8f01cfea414140de5dae2223b00361a396177a9cb410ff61f20015ad"},
		{strings.Repeat("\x00", 56), "d4817aa5497628e7c77e6b606107042bbba3130888c5f47a375e6179be789fbb"},
	} {
		if got := digits(sums.Sha(c.text)); got != c.sum {
			t.Errorf("P1.3: Sha(%q) = %s, want %s", c.text, got, c.sum)
		}
	}
}

// The sizes around 55, 56, 63, 64, 65 and 119, 120, 128 are among these: there the padding takes up another piece.
func TestShaOfEverySize(t *testing.T) {
	for size := range 400 {
		text := noise(size, size)
		if got, want := sums.Sha(text), standardSha(text); got != want {
			t.Errorf("P1.3: Sha of %d bytes = %s, want %s", size, digits(got), digits(want))
		}
	}
	text := noise(5, 1<<20+3)
	if got, want := sums.Sha(text), standardSha(text); got != want {
		t.Errorf("P1.3: Sha of %d bytes = %s, want %s", len(text), digits(got), digits(want))
	}
}

// From 2^29 bytes on the number of bits needs more than 32 bits.
func TestShaOfALongText(t *testing.T) {
	chunk := noise(6, 1<<20)
	got, want := sums.NewHash(), sha256.New()
	for range 1<<9 + 1 {
		got.Add(chunk)
		want.Write([]byte(chunk))
	}
	if g, w := got.Sum(), string(want.Sum(nil)); g != w {
		t.Errorf("P1.3: Sha of 513 MiB = %s, want %s", digits(g), digits(w))
	}
}

func TestHashOfNothing(t *testing.T) {
	h := sums.NewHash()
	if got := h.Sum(); got != standardSha("") {
		t.Errorf("P1.4: nothing written: %s", digits(got))
	}
	h.Add("")
	h.Add("")
	if got := h.Sum(); got != standardSha("") {
		t.Errorf("P1.4: empty texts written: %s", digits(got))
	}
}

func TestHashByPieces(t *testing.T) {
	text := noise(8, 400)
	for _, step := range []int{1, 2, 7, 31, 54, 55, 56, 57, 63, 64, 65, 66, 127, 128, 129, 192, 400} {
		h := sums.NewHash()
		for from := 0; from < len(text); from += step {
			to := min(from+step, len(text))
			h.Add("")
			h.Add(text[from:to])
			want := standardSha(text[:to])
			if first, second := h.Sum(), h.Sum(); first != want || second != want {
				t.Fatalf("P1.4: by pieces of %d, behind %d bytes: %s and then %s, want %s", step, to, digits(first), digits(second), digits(want))
			}
		}
	}
}

func TestHashUnaskedBetween(t *testing.T) {
	for _, size := range []int{55, 56, 63, 64, 65, 130} {
		text := noise(size, size)
		for cut := range size + 1 {
			h := sums.NewHash()
			h.Add(text[:cut])
			h.Add(text[cut:])
			if got, want := h.Sum(), standardSha(text); got != want {
				t.Errorf("P1.4: %d bytes cut at %d: %s, want %s", size, cut, digits(got), digits(want))
			}
		}
	}
}

func TestHashesApart(t *testing.T) {
	one, other := sums.NewHash(), sums.NewHash()
	texts := []string{noise(1, 40), noise(2, 40)}
	for n := 1; n <= 5; n++ {
		one.Add(texts[0])
		other.Add(texts[1])
		if got := one.Sum(); got != standardSha(strings.Repeat(texts[0], n)) {
			t.Errorf("P1.4: the first digest saw the other: %s", digits(got))
		}
		if got := other.Sum(); got != standardSha(strings.Repeat(texts[1], n)) {
			t.Errorf("P1.4: the second digest saw the other: %s", digits(got))
		}
	}
}

func TestHashHasTwoHolders(t *testing.T) {
	h := sums.NewHash()
	held := h
	h.Add("one ")
	held.Add("text")
	if got, want := h.Sum(), standardSha("one text"); got != want || held.Sum() != want {
		t.Errorf("P1.4: two holders of one digest: %s and %s, want %s", digits(got), digits(held.Sum()), digits(want))
	}
}

// plain tells whether a type is made of numbers alone, so that its size is all that a value of it can keep.
func plain(of reflect.Type) bool {
	switch of.Kind() {
	case reflect.Struct:
		for i := range of.NumField() {
			if !plain(of.Field(i).Type) {
				return false
			}
		}
		return true
	case reflect.Array:
		return plain(of.Elem())
	}
	return of.Kind() >= reflect.Bool && of.Kind() <= reflect.Uint64
}

func TestHashKeepsLittle(t *testing.T) {
	of := reflect.TypeFor[sums.Hash]()
	if !plain(of) || of.Size() > 64+8*4+8 {
		t.Errorf("P1.4: a digest keeps more than 64 bytes of text, eight words and a count: %d bytes, numbers alone: %v", of.Size(), plain(of))
	}
}

func TestCallsAtTheSameTime(t *testing.T) {
	var all sync.WaitGroup
	for worker := range 8 {
		all.Go(func() {
			h := sums.NewHash()
			for size := range 130 {
				text := noise(worker, size)
				h.Add("x")
				mac := sums.Mac(text, "x")
				if sums.Sha(text) != standardSha(text) || h.Sum() != standardSha(strings.Repeat("x", size+1)) || mac != standardMac(text, "x") || sums.Crc(text) != slowCrc(0, text) {
					t.Errorf("P1.7: worker %d, %d bytes: another answer beside others' calls", worker, size)
				}
			}
		})
	}
	all.Wait()
}
