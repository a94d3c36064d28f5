package intake_test

import (
	"strings"
	"testing"

	"usher/api"
)

// headOf is a head of just so many bytes, of one field.
func headOf(size int) string {
	s := "GET / HTTP/1.1\r\nHost: "
	return s + strings.Repeat("x", size-len(s)-4) + "\r\n\r\n"
}

func TestHeadsOfTheGreatestSize(t *testing.T) {
	for _, max := range []int{40, 200, 8192, 65536} {
		l := limits{max, 10}
		for size := max - 2; size <= max; size++ {
			s := headOf(size)
			q := api.Request{Method: "GET", Target: "/", Minor: 1, Fields: pairs("host", s[22:size-4])}
			mustTake(t, "P7.2", l, s, q)
			mustPlay(t, "P7.2", l, s+"GET", lot{requests: []api.Request{q}, left: 3})
			mustTake(t, "P7.2", l, "\r\n"+s[:22]+s[24:], api.Request{Method: "GET", Target: "/", Minor: 1, Fields: pairs("host", s[24:size-4])})
			mustWant(t, "P7.2", l, s[:size-1])
		}
		for size := max + 1; size < max+6; size++ {
			s := headOf(size)
			mustRefuse(t, "P7.2", l, s, 431)
			mustRefuse(t, "P7.2", l, s[:max], 431)
			mustWant(t, "P7.2", l, s[:max-1])
			mustRefuse(t, "P7.2", l, "\r\n"+s[:22]+s[24:], 431)
		}
	}
}

// TestHeadsTooLongAreNotLookedAt: whatever the first headMax bytes are, if they end no head, it is 431.
func TestHeadsTooLongAreNotLookedAt(t *testing.T) {
	for n := range 256 {
		s := strings.Repeat(oneByte(n), 200)
		mustWant(t, "P7.2", little, s[1:])
		mustRefuse(t, "P7.2", little, s, 431)
		mustRefuse(t, "P7.2", little, s+s, 431)
	}
	mustRefuse(t, "P7.2", little, strings.Repeat("\r\n\n", 70), 431)
	mustRefuse(t, "P7.2", little, strings.Repeat("a\r\n", 70), 431)
	mustRefuse(t, "P7.2", little, strings.Repeat("a", 197)+"\r\n\r\n", 431)
	mustRefuse(t, "P7.2", little, strings.Repeat("a", 196)+"\r\n\r\n", 400)
}

// TestLittleLimits: no head has fewer than four bytes.
func TestLittleLimits(t *testing.T) {
	for max := 1; max < 10; max++ {
		l := limits{max, 0}
		s := "\r\n\r\n\r\n\r\n\r\n"
		for size := range len(s) {
			switch {
			case size >= 4 && max >= 4:
				mustRefuse(t, "P7.2", l, s[:size], 400)
			case size >= max:
				mustRefuse(t, "P7.2", l, s[:size], 431)
			default:
				mustWant(t, "P7.2", l, s[:size])
			}
		}
	}
}

func TestManyFields(t *testing.T) {
	for count, want := range map[int]int{62: 1, 63: 1, 64: 431, 65: 431, 1000: 431, 10000: 431} {
		s := "GET / HTTP/1.1\r\n" + strings.Repeat("a:b\r\n", count) + "Host: x\r\n\r\n"
		q := api.Request{Method: "GET", Target: "/", Minor: 1}
		for range count {
			q.Fields = append(q.Fields, api.Pair{Name: "a", Value: "b"})
		}
		q.Fields = append(q.Fields, api.Pair{Name: "host", Value: "x"})
		if want == 1 {
			mustTake(t, "P7.3", most, s, q)
		} else {
			mustRefuse(t, "P7.3", most, s, want)
		}
		faulty := strings.Replace(s, "Host: x", "Host x", 1)
		mustRefuse(t, "P7.3", most, faulty, 400)
	}
}

func TestBodiesOfTheGreatestSize(t *testing.T) {
	for _, c := range []struct {
		max         int
		right, over string
	}{{0, "0", "1"}, {1, "01", "2"}, {10, "10", "11"}, {4096, "4096", "4097"}, {65535, "65535", "65536"}, {65536, "0065536", "65537"}} {
		l := limits{200, c.max}
		body := strings.Repeat("b", c.max)
		s := "GET / HTTP/1.1\r\nHost: x\r\nContent-Length: " + c.right + "\r\n\r\n"
		q := api.Request{Method: "GET", Target: "/", Minor: 1, Fields: pairs("host", "x", "content-length", c.right), Body: body}
		mustTake(t, "P7.4", l, s+body, q)
		mustPlay(t, "P7.4", l, s+body+"b", lot{requests: []api.Request{q}, left: 1})
		if c.max > 0 {
			mustWant(t, "P7.4", l, s+body[1:])
		}
		mustRefuse(t, "P7.3", l, "GET / HTTP/1.1\r\nHost: x\r\nContent-Length: "+c.over+"\r\n\r\n", 413)
	}
}
