package jsonobj_test

import (
	"encoding/json"
	"math/rand"
	"strings"
	"testing"

	"usher/api"
	"usher/jsonobj"
)

func TestQuoteExamples(t *testing.T) {
	mustQuote(t, "", `""`)
	mustQuote(t, "a\n\"\\\x1f", `"a\n\"\\\u001f"`)
	mustQuote(t, "\x7f/<", "\"\x7f/<\"")
	mustNotQuote(t, "\xff")
	mustNotQuote(t, "\xed\xa0\x80")
	mustNotQuote(t, "\xc0\x80")
}

func TestQuoteEveryByte(t *testing.T) {
	short := map[byte]string{'"': `\"`, '\\': `\\`, 8: `\b`, 9: `\t`, 10: `\n`, 12: `\f`, 13: `\r`}
	const digits = "0123456789abcdef"
	for number := range 256 {
		b := byte(number)
		s := string([]byte{b})
		want := s
		if written, ok := short[b]; ok {
			want = written
		} else if b < 0x20 {
			want = `\u00` + digits[b/16:b/16+1] + digits[b%16:b%16+1]
		} else if b >= 0x80 {
			mustNotQuote(t, s)
			mustNotQuote(t, "ab"+s)
			mustNotQuote(t, s+"ab")
			mustNotQuote(t, "\u00e9"+s+"\u00e9")
			continue
		}
		mustQuote(t, s, `"`+want+`"`)
		mustQuote(t, "a"+s+s+"b", `"a`+want+want+`b"`)
		mustQuote(t, s+"\u20ac"+s, `"`+want+"\u20ac"+want+`"`)
	}
}

func TestQuoteEveryCharacter(t *testing.T) {
	for number := rune(0x20); number <= 0x10ffff; number++ {
		if number == '"' || number == '\\' || 0xd800 <= number && number <= 0xdfff {
			continue
		}
		if s := string(number); !plain(s) {
			t.Fatalf("the table of the test has not the character %x", number)
		} else if got, err := jsonobj.Quote(s); got != `"`+s+`"` || err != nil {
			t.Fatalf("P4.1: Quote of the character %x = %q, %v", number, got, err)
		}
	}
}

func TestQuoteNoHalves(t *testing.T) {
	for number := 0xd800; number <= 0xdfff; number++ {
		mustNotQuote(t, string([]byte{0xed, byte(0x80 | number>>6&0x3f), byte(0x80 | number&0x3f)}))
	}
}

func TestQuoteTheRowsAtTheirEdges(t *testing.T) {
	taken := 0
	for number := range len(edgeBytes) * len(edgeBytes) * len(edgeBytes) * len(edgeBytes) {
		four := make([]byte, 4)
		for i := range four {
			four[i] = edgeBytes[number%len(edgeBytes)]
			number /= len(edgeBytes)
		}
		for size := 1; size <= 4; size++ {
			s := string(four[:size])
			got, err := jsonobj.Quote(s)
			if plain(s) != (err == nil) || err != nil && (got != "" || err != api.ErrText) {
				t.Fatalf("P4.1: Quote(%q) = %q, %v; whether it is plain: %v", s, got, err, plain(s))
			}
			if err == nil {
				taken++
			}
		}
	}
	if taken == 0 {
		t.Error("no text of the edges is plain")
	}
}

func TestQuoteEveryTwoBytes(t *testing.T) {
	for number := range 1 << 16 {
		s := string([]byte{byte(number >> 8), byte(number)})
		if _, err := jsonobj.Quote(s); plain(s) != (err == nil) {
			t.Errorf("P4.1: Quote(%q): %v; whether it is plain: %v", s, err, plain(s))
		}
	}
}

func TestQuoteCutOff(t *testing.T) {
	for _, character := range characters {
		for size := 1; size < len(character); size++ {
			mustNotQuote(t, character[:size])
			mustNotQuote(t, "a"+character[:size])
			mustNotQuote(t, character[:size]+"a")
			mustNotQuote(t, character[:size]+character)
			mustNotQuote(t, character[size:])
		}
	}
}

func TestQuoteIsReadByTheStandard(t *testing.T) {
	random := rand.New(rand.NewSource(1))
	for range 3000 {
		s := somePlain(random, 20)
		written, err := jsonobj.Quote(s)
		var got string
		if readErr := json.Unmarshal([]byte(written), &got); err != nil || readErr != nil || got != s {
			t.Errorf("P4.1: Quote(%q) = %q, %v, which the standard library reads as %q, %v", s, written, err, got, readErr)
		}
	}
	long := strings.Repeat("\"\u20ac\x00b", 20000)
	mustQuote(t, long, `"`+strings.Repeat("\\\"\u20ac\\u0000b", 20000)+`"`)
	mustNotQuote(t, long+"\x80")
}
