package intake_test

import (
	"math/rand"
	"strings"
	"testing"
)

func bytewise(s string) []string {
	pieces := make([]string, len(s))
	for i := range pieces {
		pieces[i] = s[i : i+1]
	}
	return pieces
}

// anyPieces cuts a text anywhere; some pieces are empty.
func anyPieces(random *rand.Rand, s string) []string {
	var pieces []string
	for s != "" {
		size := min(random.Intn(1+random.Intn(60)), len(s))
		pieces = append(pieces, s[:size])
		s = s[size:]
	}
	return pieces
}

// streams are bytes that a client may send: sound, faulty, and at a limit of little.
func streams() []string {
	const get = "GET / HTTP/1.1\r\nHost: x\r\nConnection: close\r\n\r\n"
	body := "POST / HTTP/1.1\r\nHost: x\r\nContent-Length: 9\r\n\r\n\r\n\r\nGET /"
	chunked := coded + "4\r\n\r\n\r\n\r\n2;x\r\n0\r\r\n0\r\na: b\r\n\r\n"
	list := []string{
		"", "\r\n", "\r\n\r\n", "\r\r\n\n\r\n\r\n", sound, sound + sound, "\r\n" + sound + "\r\n" + sound + "\r\n\r\n" + sound,
		body, body + body + sound, chunked + body + chunked + "GET", sound + get + sound, chunked + get + "\x00",
		body + "GET / HTTP/2.0\r\n\r\n" + sound, chunked + coded + "b\r\n" + sound, chunked + coded + "3\r\nabcd\r\n" + sound, coded + "0\r\nx\r\n\r\n",
		headOf(200) + headOf(200) + "a", headOf(199) + headOf(201) + "a", sound + strings.Repeat("a", 300), sound + strings.Repeat("\r", 199), sound + strings.Repeat("\n", 200),
		strings.Repeat("a", 196) + "\r\n\r\n", strings.Repeat("a", 197) + "\r\n\r\n",
	}
	for _, size := range []int{193, 194, 195, 196, 197, 198} {
		list = append(list, coded+"0;"+strings.Repeat("a", size)+"\r\n\r\n"+sound, coded+"1;"+strings.Repeat("a", size-6)+"\r\n\r\r\n0\r\n\r\n"+sound, coded+"0\r\na:"+strings.Repeat(" ", size-4)+"\r\n\r\n"+sound)
	}
	return list
}

func mustNotShow(t *testing.T, l limits, s string, want lot, pieces ...string) {
	t.Helper()
	if got := l.play(t, pieces...); !sameLot(got, want) {
		t.Errorf("P7.9: of %.300q in %d pieces comes %+v, want %+v", s, len(pieces), got, want)
	}
}

func TestTheCuttingIsNotSeen(t *testing.T) {
	random := rand.New(rand.NewSource(9))
	for _, s := range streams() {
		want := little.expected(s)
		mustNotShow(t, little, s, want, s)
		mustNotShow(t, little, s, want, bytewise(s)...)
		for at := range s {
			mustNotShow(t, little, s, want, s[:at], s[at:])
			mustNotShow(t, little, s, want, s[:at], "", s[at:at+1], s[at+1:])
		}
		for range 200 {
			mustNotShow(t, little, s, want, anyPieces(random, s)...)
		}
	}
}

// TestNoiseIsCutUnseen plays streams that are changed at random, with limits at random.
func TestNoiseIsCutUnseen(t *testing.T) {
	random := rand.New(rand.NewSource(10))
	list := streams()
	for range 20000 {
		s := list[random.Intn(len(list))] + list[random.Intn(len(list))]
		for range random.Intn(3) {
			at := random.Intn(len(s) + 1)
			s = s[:at] + noise(random, "\r\n\r\n:; 0a\x00\xff", random.Intn(3)) + s[min(at+random.Intn(3), len(s)):]
		}
		l := limits{1 + random.Intn(250), random.Intn(12)}
		want := l.expected(s)
		mustNotShow(t, l, s, want, s)
		mustNotShow(t, l, s, want, anyPieces(random, s)...)
	}
}
