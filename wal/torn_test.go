package wal_test

import (
	"math/rand"
	"strings"
	"testing"

	"usher/wal"
)

// rows is rows of payloads, of all sorts of lengths and bytes.
func rows() [][]string {
	random := rand.New(rand.NewSource(7))
	list := [][]string{nil, {"a"}, {"\x00"}, {"a", "a"}, {"\x00\x00", "\xff"}, {"a", "bc", "def", "ghij"}, {string(row("a")), "b"}, {strings.Repeat("\x00", 40), "x"}}
	for range 20 {
		var payloads []string
		for range 1 + random.Intn(6) {
			payload := make([]byte, 1+random.Intn(1+random.Intn(70)))
			random.Read(payload)
			payloads = append(payloads, string(payload))
		}
		list = append(list, payloads)
	}
	return append(list, []string{strings.Repeat("g", 8192), "h", strings.Repeat("i", 8191)})
}

// whole is how many of the payloads have their frames within n bytes, and how many bytes these take.
func whole(payloads []string, n int) (int, int) {
	count, length := 0, 0
	for _, p := range payloads {
		if length+8+len(p) > n {
			break
		}
		count, length = count+1, length+8+len(p)
	}
	return count, length
}

func TestWholeRows(t *testing.T) {
	for _, payloads := range rows() {
		var data []byte
		for _, p := range payloads {
			frame, err := wal.Frame([]byte(p))
			if err != nil {
				t.Fatalf("P13.1: Frame of %d bytes: %v", len(p), err)
			}
			data = append(data, frame...)
		}
		mustScan(t, data, payloads, len(data))
	}
}

// TestCutOffAnywhere: what is left of a row tells the frames that are whole in it.
func TestCutOffAnywhere(t *testing.T) {
	for _, payloads := range rows() {
		data := row(payloads...)
		for n := 0; n <= len(data); n += 1 + len(data)/700 {
			count, length := whole(payloads, n)
			mustScan(t, data[:n], payloads[:count], length)
		}
		for i := range payloads {
			_, length := whole(payloads[:i+1], len(data))
			for _, n := range []int{length - 1, length, min(length+1, len(data)), min(length+8, len(data))} {
				count, good := whole(payloads, n)
				mustScan(t, data[:n], payloads[:count], good)
			}
		}
	}
}

// turn is the row with bits of its payload i turned: those of the pattern, from that place of the payload on, lowest bit of a byte first.
func turn(payloads []string, i, place int, pattern uint32) []byte {
	data := row(payloads...)
	_, start := whole(payloads[:i], len(data))
	for k := range 32 {
		if pattern>>k&1 == 1 {
			at := place + k
			data[start+8+at/8] ^= 1 << (at % 8)
		}
	}
	return data
}

// TestBitsTurned: Scan ends ahead of a payload in which bits are turned within 32 places.
func TestBitsTurned(t *testing.T) {
	random := rand.New(rand.NewSource(32))
	for _, payloads := range rows() {
		for i, payload := range payloads {
			places := len(payload) * 8
			_, ahead := whole(payloads[:i], 1<<20)
			step := 1 + places/400
			for place := 0; place < places; place += step {
				for range 3 {
					pattern := (random.Uint32() | 1) >> random.Intn(32)
					if left := places - place; left < 32 {
						pattern &= 1<<left - 1
					}
					if pattern == 0 {
						pattern = 1
					}
					mustScan(t, turn(payloads, i, place, pattern), payloads[:i], ahead)
				}
			}
		}
	}
}

// TestAllBitsTurnedOfShortPayloads takes every change of payloads of one and of two bytes.
func TestAllBitsTurnedOfShortPayloads(t *testing.T) {
	for pattern := uint32(1); pattern < 256; pattern++ {
		mustScan(t, turn([]string{"x", "a", "y"}, 1, 0, pattern), []string{"x"}, 9)
	}
	for pattern := uint32(1); pattern < 65536; pattern += 3 {
		if got, n := wal.Scan(turn([]string{"ab", "y"}, 0, 0, pattern)); len(got) != 0 || n != 0 {
			t.Errorf("P13.7: with the bits %x turned: %q, %d", pattern, texts(got), n)
		}
	}
}
