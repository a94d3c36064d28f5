package record_test

import (
	"encoding/binary"
	"math"
	"strings"
	"testing"

	"usher/api"
)

// longer is n with groups too many behind it: in all so many bytes.
func longer(n, size int) []byte {
	out := binary.AppendUvarint(nil, uint64(n))
	for len(out) < size {
		out[len(out)-1] |= 128
		out = append(out, 0)
	}
	return out
}

// session is the session of ann, with these bytes where its time stands.
func session(at []byte) []byte { return join(1, 43, zeroID, 3, "ann", at) }

// TestNumbersAtTheirEdges tells the bytes of times at the edges of their groups.
func TestNumbersAtTheirEdges(t *testing.T) {
	for at, written := range map[int][]byte{
		0: {0}, 1: {1}, 127: {127}, 128: {128, 1}, 129: {129, 1}, 255: {255, 1}, 256: {128, 2}, 300: {172, 2},
		16383: {255, 127}, 16384: {128, 128, 1}, 1<<21 - 1: {255, 255, 127}, 1 << 21: {128, 128, 128, 1},
		1<<28 - 1: {255, 255, 255, 127}, 1 << 28: {128, 128, 128, 128, 1},
		1<<35 - 1: {255, 255, 255, 255, 127}, 1 << 35: {128, 128, 128, 128, 128, 1},
		1099511627775: {255, 255, 255, 255, 255, 31}, 1099511627776: {128, 128, 128, 128, 128, 32},
	} {
		mustWrite(t, api.Record{Kind: 1, ID: zeroID, User: "ann", At: at}, session(written))
	}
}

// TestEveryTimeOfTwoGroups goes past the end of the second group.
func TestEveryTimeOfTwoGroups(t *testing.T) {
	for at := range 1<<14 + 300 {
		mustTake(t, api.Record{Kind: 1, ID: zeroID, User: "ann", At: at})
	}
}

// TestEveryTimeOfTwoBytes: of all two bytes just those are a number that have one spelling.
func TestEveryTimeOfTwoBytes(t *testing.T) {
	for first := range 256 {
		for second := range 256 {
			mustAgree(t, session([]byte{byte(first), byte(second)}))
		}
	}
}

// TestGroupsTooMany writes a number with a last group of 0, at each place where one stands.
func TestGroupsTooMany(t *testing.T) {
	for size := 2; size <= 12; size++ {
		for _, at := range []int{0, 1, 127} {
			mustNotRead(t, session(longer(at, size)))
		}
		if size > 2 {
			mustNotRead(t, session(longer(300, size)))
		}
		mustNotRead(t, join(5, longer(43, size), zeroID))
		mustNotRead(t, join(1, 43, zeroID, longer(3, size), "ann", 0))
		mustNotRead(t, join(11, longer(3, size), "app", 3, "ann"))
		mustNotRead(t, join(11, 3, "app", longer(3, size), "ann"))
		mustNotRead(t, join(3, 3, "app", longer(1, size), 1, "a", 3, "ann", 0))
		mustNotRead(t, join(3, 3, "app", 1, longer(1, size), "a", 3, "ann", 0))
		mustNotRead(t, join(4, 43, zeroID, longer(9, size), "https://a", 43, proof, 3, "app", 1, 1, "a", 3, "ann", 0))
		mustNotRead(t, join(4, 43, zeroID, 9, "https://a", longer(43, size), proof, 3, "app", 1, 1, "a", 3, "ann", 0))
		mustNotRead(t, join(6, 43, zeroID, longer(43, size), zeroID, 3, "app", 1, 1, "a", 3, "ann", 0))
		mustNotRead(t, join(longer(5, size), 43, zeroID))
		mustNotUnpack(t, join(longer(1, size), 45, 5, 43, zeroID))
		mustNotUnpack(t, join(1, longer(45, size), 5, 43, zeroID))
	}
	mustTake(t, api.Record{Kind: 4, ID: zeroID, User: "ann", Client: "app", Redirect: "https://a", Challenge: proof, Scopes: []string{"a"}})
}

// TestNoLastGroup ends within a number, at each place where one stands, after any number of groups.
func TestNoLastGroup(t *testing.T) {
	for count := range 13 {
		open := strings.Repeat("\x81", count)
		for _, head := range [][]byte{session(nil), join(5), join(1, 43, zeroID), join(11), join(11, 3, "app"), join(3, 3, "app"), join(3, 3, "app", 1), join(4, 43, zeroID), join(4, 43, zeroID, 9, "https://a"), join(6, 43, zeroID)} {
			mustNotRead(t, join(head, open))
		}
		mustNotUnpack(t, []byte(open))
		mustNotUnpack(t, join(1, open))
	}
}

// TestNumbersTooGreat: also those that an int of 64 bits would cut down to the right one.
func TestNumbersTooGreat(t *testing.T) {
	var great [][]byte
	for _, n := range []uint64{1<<40 + 1, 1 << 41, 1<<42 - 1, 1 << 48, 1 << 56, 1<<62 - 1, 1 << 62, math.MaxInt64, 1 << 63, 1<<63 + 1, math.MaxUint64} {
		great = append(great, binary.AppendUvarint(nil, n))
	}
	for _, low := range []byte{0, 1, 3, 43, 45} {
		for groups := 8; groups <= 40; groups++ {
			for _, last := range []byte{1, 2, 3, 64, 127} {
				great = append(great, join(int(low|128), strings.Repeat("\x80", groups), int(last)))
			}
		}
	}
	for _, n := range great {
		mustNotRead(t, session(n))
		mustNotRead(t, join(5, n, zeroID))
		mustNotRead(t, join(1, 43, zeroID, n, "ann", 0))
		mustNotRead(t, join(11, n, "app", 3, "ann"))
		mustNotRead(t, join(3, 3, "app", n, 1, "a", 3, "ann", 0))
		mustNotRead(t, join(3, 3, "app", 1, n, "a", 3, "ann", 0))
		mustNotUnpack(t, join(n, 45, 5, 43, zeroID))
		mustNotUnpack(t, join(1, n, 5, 43, zeroID))
	}
}

// TestLengthsOfTwoGroups: texts at the edge of one group, and records.
func TestLengthsOfTwoGroups(t *testing.T) {
	for _, size := range []int{126, 127, 128, 129, 300, 511, 512} {
		mustTake(t, with(made(4, usual), "Redirect", longAddress(size)))
	}
	for _, size := range []int{126, 127, 128} {
		mustTake(t, with(made(4, usual), "Challenge", strings.Repeat("c", size)))
	}
	r := made(4, usual)
	mustWrite(t, with(r, "Redirect", longAddress(128)), join(4, 43, zeroID, 128, 1, longAddress(128), 43, proof, 3, "app", 2, 4, "read", 5, "write", 3, "ann", 172, 2))
	for size := 18; size <= 512; size++ {
		mustTake(t, with(r, "Redirect", longAddress(size)))
	}
}
