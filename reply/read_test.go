package reply_test

import (
	"math/rand"
	"strconv"
	"strings"
	"testing"

	"usher/api"
)

const (
	first   = "HTTP/1.1 200 OK\r\n"
	nothing = "Content-Length: 0\r\nConnection: close\r\n\r\n"
)

func TestWithoutAnEmptyLine(t *testing.T) {
	for _, s := range []string{"\r", "\n", "\r\n", "\r\n\r", "\n\n\n\n", "\r\r\n\n", "\n\r\n\r", "\r\n\n\r\n", "\r\n \r\n", "\r\r\r\r", first, first + "Content-Length: 0\r\nConnection: close\r\n\n", strings.Repeat("\r\n\r", 9), "\x00\xff"} {
		mustNotRead(t, "P8.3", s, api.ErrShort)
	}
	for _, s := range []string{"\r\n\r\n", "x\r\n\r\n", "\r\n\r\n\r\n", "\r\r\n\r\n", "\r\n\r\n" + first + nothing, "\r\n" + first + nothing, "\n" + first + nothing, " " + first + nothing} {
		mustNotRead(t, "P8.3", s, api.ErrText)
	}
}

func TestFirstLines(t *testing.T) {
	for status, phrase := range phrases {
		text := "HTTP/1.1 " + strconv.Itoa(status) + " " + phrase + "\r\n" + nothing
		mustRead(t, "P8.3", text, api.Reply{Status: status, Close: true}, len(text))
		for other, wrong := range phrases {
			if other != status {
				mustNotRead(t, "P8.3", "HTTP/1.1 "+strconv.Itoa(status)+" "+wrong+"\r\n"+nothing, api.ErrText)
			}
		}
	}
	for status := range 1200 {
		if phrases[status] == "" {
			mustNotRead(t, "P8.3", "HTTP/1.1 "+strconv.Itoa(status)+" OK\r\n"+nothing, api.ErrText)
			mustNotRead(t, "P8.3", "HTTP/1.1 "+strconv.Itoa(status)+" \r\n"+nothing, api.ErrText)
		}
	}
	for _, line := range []string{"", "OK", "HTTP/1.1", "HTTP/1.1 200", "HTTP/1.1 200 ", "HTTP/1.1 200 ok", "HTTP/1.1 200 Fine", "HTTP/1.1 200 OKAY", "HTTP/1.1 200  OK", "HTTP/1.1  200 OK", " HTTP/1.1 200 OK", "HTTP/1.1 200 OK ", "HTTP/1.1\t200 OK", "HTTP/1.0 200 OK", "HTTP/2 200 OK", "http/1.1 200 OK", "HTTP/1.1 0200 OK", "HTTP/1.1 +200 OK", "HTTP/1.1 -200 OK", "HTTP/1.1 0 ", "HTTP/1.1 200 OK\r", "HTTP/1.1 200 OK\n", "GET / HTTP/1.1"} {
		mustNotRead(t, "P8.3", line+"\r\n"+nothing, api.ErrText)
	}
}

func TestFieldLines(t *testing.T) {
	for _, c := range []struct {
		line   string
		fields []api.Pair
	}{
		{"", nil},
		{"a: \r\n", pairs("a", "")},
		{"a: b\r\n", pairs("a", "b")},
		{"a: b\r\na: c\r\nA: b\r\n", pairs("a", "b", "a", "c", "A", "b")},
		{"b: c: d\r\n", pairs("b", "c: d")},
		{"b: :\r\n", pairs("b", ":")},
		{"b: c  \t d\r\n", pairs("b", "c  \t d")},
		{"b: HTTP/1.1 200 OK\r\n", pairs("b", "HTTP/1.1 200 OK")},
		{"b: Content-Length: 5\r\n", pairs("b", "Content-Length: 5")},
		{"Content-Lengths: 5\r\nConnectio: x\r\n", pairs("Content-Lengths", "5", "Connectio", "x")},
		{"\x60: \xff\x80\r\n", pairs("\x60", "\xff\x80")},
	} {
		text := first + c.line + nothing
		mustRead(t, "P8.3", text, api.Reply{Status: 200, Fields: c.fields, Close: true}, len(text))
	}
	for _, line := range []string{"a", "a:", "a:b", "a:\tb", "a:  b", "a: b ", "a: b\t", "a:  ", "a: \t", "a :b", "a : b", ": c", "a b: c", " a: b", "\ta: b", "a: b\r", "\ra: b", "a: b\nc: d", "a: b\n", "\n", "a\r: b", "a: \r", "a: \x00", "a: \x7f", "a\xe9: b", "a: b\n ", "a: b\rc: d", "Content-Length: 0", "content-length: 0", "Connection: close", "CONNECTION: x", "Transfer-Encoding: chunked", "transfer-encoding: "} {
		mustNotRead(t, "P8.3", first+line+"\r\n"+nothing, api.ErrText)
		mustNotRead(t, "P8.3", first+"x: y\r\n"+line+"\r\n"+nothing, api.ErrText)
		mustNotRead(t, "P8.3", first+line+"\r\nx: y\r\n"+nothing, api.ErrText)
	}
}

// TestLastLines lays the two last lines, doubled, missing and in any order, with others between and behind.
func TestLastLines(t *testing.T) {
	parts := []string{"Content-Length: 0\r\n", "Content-Length: 1\r\n", "Connection: close\r\n", "Connection: keep-alive\r\n", "a: b\r\n", "Transfer-Encoding: chunked\r\n"}
	grow(first, parts, 5, func(s string) {
		mustReadAsExpected(t, "P8.3", s+"\r\n")
		mustReadAsExpected(t, "P8.3", s+"\r\nx")
	})
	length, option := "Content-Length: 0\r\n", "Connection: close\r\n"
	for _, end := range []string{"", length, option, option + length, length + length, option + option, length + option + option, length + length + option, length + option + length, length + "a: b\r\n" + option, length + option + "a: b\r\n", option + length + option} {
		mustNotRead(t, "P8.3", first+end+"\r\n", api.ErrText)
		mustNotRead(t, "P8.3", first+"a: b\r\n"+end+"\r\n", api.ErrText)
	}
	for _, line := range []string{"connection: close", "CONNECTION: close", "Connection: Close", "Connection: keep-Alive", "Connection: keepalive", "Connection: ", "Connection:close", "Connection:  close", "Connection: close ", "Connection: close, keep-alive", "Connection : close", " Connection: close", "Connection", "close"} {
		mustNotRead(t, "P8.3", first+length+line+"\r\n\r\n", api.ErrText)
	}
	for _, name := range []string{"content-length: ", "CONTENT-LENGTH: ", "Content-length: ", "Content-Length:", "Content-Length:  ", "Content-Length : ", " Content-Length: ", "Length: ", ""} {
		mustNotRead(t, "P8.3", first+name+"0\r\n"+option+"\r\n", api.ErrText)
	}
}

func TestLengths(t *testing.T) {
	full := strings.Repeat("x", 1048580)
	for _, size := range []int{0, 1, 9, 10, 12, 100, 65536, 1000000, 1048575, 1048576} {
		head := first + "Content-Length: " + strconv.Itoa(size) + "\r\nConnection: close\r\n\r\n"
		want := api.Reply{Status: 200, Body: full[:size], Close: true}
		mustRead(t, "P8.3", head+full[:size], want, len(head)+size)
		mustRead(t, "P8.3", head+full, want, len(head)+size)
		for _, less := range []int{1, 2, size} {
			if size > 0 && less <= size {
				mustNotRead(t, "P8.3", head+full[:size-less], api.ErrShort)
			}
		}
	}
	for _, digits := range []string{"", " ", "00", "01", "02", "007", "-1", "-0", "+0", "+2", "1048577", "1048580", "2000000", "9999999", "10000000", "4294967296", "4294967298", "9223372036854775807", "9223372036854775808", "18446744073709551616", "18446744073709551618", "1" + strings.Repeat("0", 400), strings.Repeat("0", 400), strings.Repeat("9", 100000), "2 ", " 2", "2\t", "2,2", "2.0", "0x2", "2e0", "1_0", "1,0", "a", "\xb2", "٢", "2\r", "2\n", "2\x00"} {
		mustNotRead(t, "P8.3", first+"Content-Length: "+digits+"\r\nConnection: close\r\n\r\n"+full, api.ErrText)
		mustNotRead(t, "P8.3", first+"Content-Length: "+digits+"\r\nConnection: close\r\n\r\n", api.ErrText)
	}
	for n := range 1200 {
		mustReadAsExpected(t, "P8.3", first+"Content-Length: "+strconv.Itoa(n)+"\r\nConnection: close\r\n\r\n"+full[:600])
	}
}

func TestLimitsOfReading(t *testing.T) {
	for count := range 70 {
		mustReadAsExpected(t, "P8.3", first+strings.Repeat("a: b\r\n", count)+nothing)
		mustReadAsExpected(t, "P8.3", first+strings.Repeat("a: b\r\n", count)+"b\r\n"+nothing)
	}
	full := first + strings.Repeat("a: b\r\n", 64)
	if got, _, err := expectedRead(full + nothing); len(got.Fields) != 64 || err != nil {
		t.Errorf("P8.3: of 64 fields the expressions expect %d, %v", len(got.Fields), err)
	}
	for _, line := range []string{"a: b", "Content-Length: 0", "Connection: close", "", "a"} {
		mustNotRead(t, "P8.3", full+line+"\r\n"+nothing, api.ErrText)
	}
	long := strings.Repeat("v", 1<<20+7)
	text := first + long + ": " + long + "\r\n" + nothing
	mustRead(t, "P8.3", text, api.Reply{Status: 200, Fields: pairs(long, long), Close: true}, len(text))
}

// TestRefusalsOfReading: a head that may not be is ErrText also where the body is missing; a sound one waits for it.
func TestRefusalsOfReading(t *testing.T) {
	mustNotRead(t, "P8.3", first+"Content-Length: 5\r\nConnection: close\r\n\r\nabcd", api.ErrShort)
	mustNotRead(t, "P8.3", first+"Content-Length: 5\r\nConnection: Close\r\n\r\nabcd", api.ErrText)
	mustNotRead(t, "P8.3", first+"a\r\nContent-Length: 5\r\nConnection: close\r\n\r\n", api.ErrText)
	mustNotRead(t, "P8.3", "HTTP/1.1 204 No Content\r\nContent-Length: 5\r\nConnection: close\r\n\r\n", api.ErrText)
	mustNotRead(t, "P8.3", first+"Content-Length: 1048576\r\nConnection: close\r\n\r\n", api.ErrShort)
	mustNotRead(t, "P8.3", first+"Content-Length: 1048577\r\nConnection: close\r\n\r\n", api.ErrText)
}

// TestTextsChangedAtEveryPlace reads sound answers with one byte other.
func TestTextsChangedAtEveryPlace(t *testing.T) {
	for _, s := range []string{
		"HTTP/1.1 200 OK\r\nContent-Length: 2\r\nConnection: close\r\n\r\nhi",
		"HTTP/1.1 303 See Other\r\nLocation: /l\r\nb: \r\nContent-Length: 12\r\nConnection: keep-alive\r\n\r\n\r\n\r\nabcdefgh",
		"HTTP/1.1 505 HTTP Version Not Supported\r\na: b c\r\nContent-Length: 1048576\r\nConnection: close\r\n\r\n",
		first + nothing + first + nothing,
	} {
		changedAt(s, func(changed string) {
			mustReadAsExpected(t, "P8.3", changed)
		})
	}
}

// TestLinesInAnyOrder reads heads that are sewn together out of lines and bits of lines.
func TestLinesInAnyOrder(t *testing.T) {
	parts := []string{"HTTP/1.1 200 OK", "Content-Length: ", "0", "1", "Connection: ", "close", "keep-alive", "a: b", ":", " ", "a", "\r\n", "\r\n", "\r\n", "\r", "\n", "Content-Length: 1\r\nConnection: close\r\n\r\n"}
	random := rand.New(rand.NewSource(8))
	for range 200000 {
		var b strings.Builder
		if random.Intn(4) > 0 {
			b.WriteString(first)
		}
		for range random.Intn(8) {
			b.WriteString(parts[random.Intn(len(parts))])
		}
		if random.Intn(4) > 0 {
			b.WriteString(nothing)
		}
		mustReadAsExpected(t, "P8.3", b.String())
	}
}
