package pkce_test

import (
	"math/rand"
	"strings"
	"testing"
	"time"

	"usher/pkce"
)

func TestSizesOfProofs(t *testing.T) {
	for size := range 300 {
		for _, b := range []string{"a", "~", "-"} {
			mustProof(t, strings.Repeat(b, size), 43 <= size && size <= 128)
		}
		mustProof(t, strings.Repeat("+", size), false)
	}
	for _, size := range []int{1 << 10, 1 << 16, 1 << 20} {
		mustProof(t, strings.Repeat("a", size), false)
	}
}

// TestBytesOfProofs lays each byte at both ends and amid others, and takes it alone for the whole text.
func TestBytesOfProofs(t *testing.T) {
	for n := range 256 {
		b := oneByte(n)
		want := strings.Contains(plain, b)
		for _, size := range []int{42, 43, 100, 127} {
			a := strings.Repeat("a", size)
			for _, s := range []string{b + a, a + b, a[:size/2] + b + a[size/2:], strings.Repeat(b, size+1)} {
				mustProof(t, s, want)
			}
		}
		mustProof(t, strings.Repeat("a", 41)+b, false)
		mustProof(t, strings.Repeat("a", 128)+b, false)
	}
	mustProof(t, plain, true)
	mustProof(t, plain[:43], true)
	mustProof(t, plain[len(plain)-43:], true)
	mustProof(t, everyByte()[:128], false)
	for _, s := range []string{"é", "\u212a", "\u017f", "\u00a0", "\ufeff", "\r\n", "%41"} {
		mustProof(t, strings.Repeat("a", 43)+s, false)
	}
}

func TestNoiseAsProof(t *testing.T) {
	random := rand.New(rand.NewSource(101))
	for round := range 20000 {
		for _, s := range []string{noise(random, plain, 40+round%95), noise(random, plain+"+", 40+round%95), noise(random, everyByte(), round%150)} {
			mustProof(t, s, wholeProof.MatchString(wide(s)))
		}
	}
}

func TestS256IsTheStandards(t *testing.T) {
	random := rand.New(rand.NewSource(102))
	for size := range 300 {
		for _, from := range []string{plain, everyByte(), "\x00", "\xff"} {
			s := noise(random, from, size)
			mustS256(t, s, standardS256(s))
		}
	}
	mustS256(t, everyByte(), standardS256(everyByte()))
	long := strings.Repeat("a", 1<<20)
	mustS256(t, long, standardS256(long))
}

// TestSameWhereverTheyPart turns over each bit of each byte, the first, the last and all between.
func TestSameWhereverTheyPart(t *testing.T) {
	random := rand.New(rand.NewSource(103))
	for size := range 70 {
		for _, s := range []string{noise(random, everyByte(), size), strings.Repeat("\x00", size), strings.Repeat("\xff", size)} {
			mustSame(t, s, strings.Clone(s), true)
			for at := range size {
				for bit := range 8 {
					mustSame(t, s, flipped(s, at, 1<<bit), false)
				}
				mustSame(t, s, flipped(s, at, 0xff), false)
			}
		}
	}
}

// TestSameAtTwoPlaces: differences that would take each other away if they were added or xored are differences still.
func TestSameAtTwoPlaces(t *testing.T) {
	s := strings.Repeat("m", 43)
	for one := range len(s) {
		for other := range one {
			mustSame(t, s, flipped(flipped(s, one, 1), other, 1), false)
			mustSame(t, s, flipped(flipped(s, one, 0x80), other, 0x80), false)
			mustSame(t, s, flipped(flipped(s, one, 'm'^'l'), other, 'm'^'n'), false)
		}
	}
	mustSame(t, "ab", "ba", false)
	mustSame(t, "abc", "cab", false)
	many := strings.Repeat("a", 256)
	mustSame(t, many, strings.Repeat("b", 256), false)
	mustSame(t, strings.Repeat(many, 256), strings.Repeat("b", 1<<16), false)
}

func TestSameOfTwoSizes(t *testing.T) {
	random := rand.New(rand.NewSource(104))
	for size := range 70 {
		s := noise(random, everyByte(), size+1)
		for less := range size + 1 {
			mustSame(t, s, s[:less], false)
			mustSame(t, s, s[len(s)-less:], false)
		}
		mustSame(t, s, s+"\x00", false)
		mustSame(t, s, "\x00"+s, false)
		mustSame(t, s, s+s, false)
		mustSame(t, "", s, false)
		mustSame(t, "", strings.Repeat("\x00", size+1), false)
		mustSame(t, "", strings.Repeat("\x00", 256*(size+1)), false)
	}
}

// TestSameLooksAtAll takes the time of texts of one length that part nowhere, at the first, a middle and the last byte.
// Of each the least of many times counts: a comparison that ends where they part would be thousands of times faster at one of the ends.
func TestSameLooksAtAll(t *testing.T) {
	const size, least, most, apart = 1 << 20, 10, 300, 4
	s := strings.Repeat("s", size)
	others := []string{strings.Clone(s), flipped(s, 0, 1), flipped(s, size/2, 1), flipped(s, size-1, 1)}
	times := []time.Duration{time.Hour, time.Hour, time.Hour, time.Hour}
	for round := range most {
		for i, other := range others {
			begin := time.Now()
			same := pkce.Same(s, other)
			times[i] = min(times[i], time.Since(begin))
			if same != (i == 0) {
				t.Fatalf("P10.3: Same of %d bytes, case %d: %v", size, i, same)
			}
		}
		if round >= least && longest(times) < apart*shortest(times) {
			return
		}
	}
	t.Errorf("P10.3: the same bytes, and others at the first, a middle and the last byte, take %v", times)
}

func longest(times []time.Duration) time.Duration {
	most := times[0]
	for _, d := range times {
		most = max(most, d)
	}
	return most
}

func shortest(times []time.Duration) time.Duration {
	least := times[0]
	for _, d := range times {
		least = min(least, d)
	}
	return least
}

func TestMatch(t *testing.T) {
	random := rand.New(rand.NewSource(105))
	for size := 43; size <= 128; size++ {
		v := noise(random, plain, size)
		c := standardS256(v)
		mustMatch(t, v, c, true)
		for at := range len(c) {
			mustMatch(t, v, flipped(c, at, 1), false)
			mustMatch(t, v, c[:at], false)
			mustMatch(t, v, c[at+1:], false)
		}
		for at := range len(v) {
			mustMatch(t, flipped(v, at, 2), c, false)
		}
		for _, other := range []string{"", v, c + "=", c + "A", " " + c, c + "\x00", c + c, pkce.S256(c), pkce.S256(v + "a"), strings.ToLower(c)} {
			mustMatch(t, v, other, false)
		}
	}
}

// TestMatchAsksForAVerifier shows what is none, with its very S256.
func TestMatchAsksForAVerifier(t *testing.T) {
	a := strings.Repeat("a", 300)
	for size := range len(a) {
		mustMatch(t, a[:size], standardS256(a[:size]), 43 <= size && size <= 128)
	}
	for n := range 256 {
		b := oneByte(n)
		for _, v := range []string{b + a[:42], a[:42] + b, a[:60] + b + a[:60], strings.Repeat(b, 43)} {
			mustMatch(t, v, standardS256(v), strings.Contains(plain, b))
		}
	}
	mustMatch(t, "", "", false)
	mustMatch(t, a[:43], a[:43], false)
}
