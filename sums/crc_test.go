package sums_test

import (
	"hash/crc32"
	"strings"
	"testing"

	"usher/sums"
)

// slowCrc keeps to the document's words: the register takes in one bit after the other.
func slowCrc(sum uint32, text string) uint32 {
	register := ^sum
	for i := 0; i < len(text); i++ {
		for k := range 8 {
			lowest, bit := register&1, uint32(text[i]>>k)&1
			register >>= 1
			if lowest != bit {
				register ^= 0xEDB88320
			}
		}
	}
	return ^register
}

func TestCrcExamples(t *testing.T) {
	for _, c := range []struct {
		text string
		sum  uint32
	}{
		{"", 0},
		{"123456789", 0xcbf43926},
		{"a", 0xe8b7be43},
		{"abc", 0x352441c2},
		{"\x00", 0xd202ef8d},
		{"\xff\xff\xff\xff", 0xffffffff},
	} {
		if got := sums.Crc(c.text); got != c.sum {
			t.Errorf("P1.1: Crc(%q) = %08x, want %08x", c.text, got, c.sum)
		}
	}
}

func TestCrcIsTheRegisters(t *testing.T) {
	for b := range 256 {
		text := string([]byte{byte(b)})
		if got, want := sums.Crc(text), slowCrc(0, text); got != want {
			t.Errorf("P1.1: Crc(%q) = %08x, want %08x", text, got, want)
		}
	}
	for size := range 300 {
		text := noise(size, size)
		got := sums.Crc(text)
		if want := slowCrc(0, text); got != want {
			t.Errorf("P1.1: Crc of %d bytes = %08x, the register says %08x", size, got, want)
		}
		if want := crc32.ChecksumIEEE([]byte(text)); got != want {
			t.Errorf("P1.1: Crc of %d bytes = %08x, the standard says %08x", size, got, want)
		}
	}
}

func TestCrcMoreExample(t *testing.T) {
	if got := sums.CrcMore(0xe8b7be43, "bc"); got != 0x352441c2 {
		t.Errorf("P1.2: CrcMore(e8b7be43, bc) = %08x, want 352441c2", got)
	}
}

func TestCrcMoreFromAnySum(t *testing.T) {
	for _, sum := range []uint32{0, 1, 0x80000000, 0x12345678, 0xe8b7be43, 0xfffffffe, 0xffffffff} {
		if got := sums.CrcMore(sum, ""); got != sum {
			t.Errorf("P1.2: CrcMore(%08x, nothing) = %08x", sum, got)
		}
		for size := range 70 {
			text := noise(size, size)
			if got, want := sums.CrcMore(sum, text), slowCrc(sum, text); got != want {
				t.Errorf("P1.2: CrcMore(%08x, %d bytes) = %08x, want %08x", sum, size, got, want)
			}
		}
	}
}

func TestCrcMoreGoesOn(t *testing.T) {
	text := noise(7, 100)
	if got, want := sums.CrcMore(0, text), sums.Crc(text); got != want {
		t.Errorf("P1.2: CrcMore(0, s) = %08x, Crc(s) = %08x", got, want)
	}
	for cut := range len(text) + 1 {
		got, want := sums.CrcMore(sums.Crc(text[:cut]), text[cut:]), sums.Crc(text)
		if got != want {
			t.Errorf("P1.2: cut at %d: %08x, whole %08x", cut, got, want)
		}
	}
}

// flip turns over the bits of text from place on where pattern has ones; places count lowest bit first.
func flip(text string, place int, pattern uint32) string {
	b := []byte(text)
	for k := range 32 {
		if pattern>>k&1 == 1 {
			b[(place+k)/8] ^= 1 << ((place + k) % 8)
		}
	}
	return string(b)
}

func TestCrcSeesBursts(t *testing.T) {
	text := noise(3, 24)
	sum := sums.Crc(text)
	patterns := []uint32{1, 3, 0x80000001, 0xffffffff, 0xEDB88320, 0xdb710641, 0x7fffffff, 0x55555555}
	for place := 0; place+32 <= 8*len(text); place++ {
		for _, pattern := range patterns {
			if sums.Crc(flip(text, place, pattern)) == sum {
				t.Errorf("P1.1: the bits %08x turned over from place %d on are not seen", pattern, place)
			}
		}
	}
}

func TestCrcOfThree(t *testing.T) {
	for size := range 80 {
		a, b, c := noise(1, size), noise(2, size), noise(4, size)
		var mixed strings.Builder
		for i := range size {
			mixed.WriteByte(a[i] ^ b[i] ^ c[i])
		}
		if got, want := sums.Crc(a)^sums.Crc(b)^sums.Crc(c), sums.Crc(mixed.String()); got != want {
			t.Errorf("P1.1: %d bytes: the sums xored are %08x, the sum of the xored text %08x", size, got, want)
		}
	}
}
