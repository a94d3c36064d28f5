package wal_test

import (
	"bytes"
	"encoding/binary"
	"hash/crc32"
	"iter"
	"math/rand"
	"runtime"
	"strings"
	"testing"

	"usher/wal"
)

// headed is bytes whose head says that length, with the sum that would be right for it.
func headed(length uint32, payload []byte) []byte {
	text := binary.BigEndian.AppendUint32(nil, length)
	sum := crc32.ChecksumIEEE(append(text[:4:4], payload...))
	return append(binary.BigEndian.AppendUint32(text, sum), payload...)
}

// TestFewBytes: up to 9 bytes, of which only a frame's own nine are one.
func TestFewBytes(t *testing.T) {
	for n := range 10 {
		for _, data := range [][]byte{make([]byte, n), bytes.Repeat([]byte{0xff}, n), bytes.Repeat([]byte{1}, n), plain("ab")[:n]} {
			mustScan(t, data, nil, 0)
			mustScan(t, join(plain("x"), data), []string{"x"}, 9)
		}
	}
	for n := range 9 {
		mustScan(t, plain("a")[:n], nil, 0)
	}
	mustScan(t, plain("a"), []string{"a"}, 9)
	mustScan(t, append(plain("a"), 0), []string{"a"}, 9)
}

// TestLengthsInAHead lays down heads with lengths that may not be, with just as many bytes behind them and a sum that is right for these.
func TestLengthsInAHead(t *testing.T) {
	most := strings.Repeat("m", 8192)
	mustScan(t, headed(8192, []byte(most)), []string{most}, 8200)
	mustScan(t, headed(1, []byte("q")), []string{"q"}, 9)
	for _, n := range []uint32{0, 8193, 8194, 12288, 16384, 65535, 65536, 65537, 1<<24 + 1} {
		data := headed(n, make([]byte, n))
		mustScan(t, data, nil, 0)
		mustScan(t, join(data, plain("a")), nil, 0)
		mustScan(t, join(plain("a"), data, plain("b")), []string{"a"}, 9)
	}
	for _, n := range []uint32{0, 1, 8192, 8193, 1 << 16, 1<<16 + 1, 1 << 24, 1<<24 + 1, 1 << 31, 1<<31 + 1, 1<<32 - 1, 1<<32 - 8} {
		for _, rest := range [][]byte{nil, []byte("a"), plain("a"), make([]byte, 9000)} {
			data := headed(n, rest)
			payloads, length := goodHead(data)
			mustScan(t, data, payloads, length)
		}
	}
}

// TestLengthPastTheEnd: a frame whose last byte is not there is none, though the sum fits what is there.
func TestLengthPastTheEnd(t *testing.T) {
	for _, n := range []int{1, 2, 3, 255, 256, 8191, 8192} {
		payload := bytes.Repeat([]byte("p"), n)
		for more := 1; more < 4; more++ {
			mustScan(t, headed(uint32(n+more), payload), nil, 0)
			mustScan(t, join(plain("a"), headed(uint32(n+more), payload)), []string{"a"}, 9)
		}
		if n > 1 {
			mustScan(t, headed(uint32(n-1), payload), nil, 0)
		}
		mustScan(t, headed(uint32(n), payload), []string{string(payload)}, n+8)
	}
}

// TestWrongSums turns every bit of a head, takes the sum of the payload alone, and takes other orders of its bytes.
func TestWrongSums(t *testing.T) {
	for _, payload := range []string{"a", "ab", strings.Repeat("xyz", 100)} {
		for bit := range 64 {
			data := row("first", payload, "last")
			data[13+bit/8] ^= 1 << (bit % 8)
			mustScan(t, data, []string{"first"}, 13)
		}
		alone := plain(payload)
		binary.BigEndian.PutUint32(alone[4:], crc32.ChecksumIEEE([]byte(payload)))
		turned := plain(payload)
		binary.LittleEndian.PutUint32(turned[4:], binary.BigEndian.Uint32(turned[4:]))
		none := plain(payload)
		binary.BigEndian.PutUint32(none[4:], 0)
		little := plain(payload)
		binary.LittleEndian.PutUint32(little, uint32(len(payload)))
		for _, data := range [][]byte{alone, turned, none, little} {
			mustScan(t, data, nil, 0)
			mustScan(t, join(row("a", "b"), data, plain("c")), []string{"a", "b"}, 18)
		}
	}
}

// TestSoundFramesBehindATornPlace are torn tail all the same.
func TestSoundFramesBehindATornPlace(t *testing.T) {
	spoilt := plain("ab")
	spoilt[9] ^= 0x40
	for _, torn := range [][]byte{{0}, {0xff}, plain("a")[:8], spoilt, make([]byte, 8), make([]byte, 17), headed(0, nil), headed(8193, make([]byte, 8193))} {
		mustScan(t, join(torn, row("x", "y")), nil, 0)
		mustScan(t, join(plain("v"), torn, row("x", "y")), []string{"v"}, 9)
		mustScan(t, join(row("v", "w"), torn, row("x", "y"), torn), []string{"v", "w"}, 18)
	}
}

// TestFramesWithinPayloads: frames that lie in a payload belong to it.
func TestFramesWithinPayloads(t *testing.T) {
	inner := string(row("a", "bc"))
	mustScan(t, row(inner, "d"), []string{inner, "d"}, len(inner)+8+9)
	whole := row(inner, inner)
	mustScan(t, whole, []string{inner, inner}, len(whole))
	mustScan(t, whole[8:], []string{"a", "bc", inner}, len(whole)-8)
	mustScan(t, whole[8:8+len(inner)], []string{"a", "bc"}, len(inner))
}

// TestAnyBytes scans bytes made by chance, some of them with frames among them.
func TestAnyBytes(t *testing.T) {
	random := rand.New(rand.NewSource(13))
	for range 3000 {
		var data []byte
		for range random.Intn(6) {
			payload := make([]byte, 1+random.Intn(30))
			random.Read(payload)
			part := plain(string(payload))
			switch random.Intn(6) {
			case 0:
				part = part[:random.Intn(len(part))]
			case 1:
				part[random.Intn(len(part))] ^= byte(1 + random.Intn(255))
			case 2:
				part = headed(uint32(random.Intn(40)), payload)
			}
			data = append(data, part...)
		}
		payloads, length := goodHead(data)
		mustScan(t, data, payloads, length)
	}
}

// TestManyFrames is a long row of small ones and of the greatest.
func TestManyFrames(t *testing.T) {
	var payloads []string
	for i := range 20000 {
		payloads = append(payloads, string(rune('a'+i%26)))
	}
	for i := range 40 {
		payloads = append(payloads, strings.Repeat(string(rune('A'+i%26)), 8192-i%2))
	}
	whole := row(payloads...)
	mustScan(t, whole, payloads, len(whole))
}

// TestStoppedEarly stops behind each of some frames: nothing is told behind that.
func TestStoppedEarly(t *testing.T) {
	payloads := []string{"a", "bb", "ccc", "dddd"}
	data := row(payloads...)
	for stop := 1; stop <= len(payloads); stop++ {
		count, place := 0, 0
		for end, payload := range wal.Frames(data) {
			if string(payload) != payloads[count] {
				t.Errorf("P13.2: frame %d is %q", count, payload)
			}
			place = end
			if count++; count == stop {
				break
			}
		}
		if want := len(row(payloads[:stop]...)); count != stop || place != want {
			t.Errorf("P13.2: stopped behind %d frames at %d, want %d at %d", count, place, stop, want)
		}
	}
	calls := 0
	wal.Frames(data)(func(int, []byte) bool {
		calls++
		return false
	})
	if calls != 1 {
		t.Errorf("P13.2: asked %d times by who stops at once", calls)
	}
}

// TestNothingBehindTheStop counts the memory that is made for a small frame ahead of many great ones.
func TestNothingBehindTheStop(t *testing.T) {
	long := strings.Repeat("l", 8192)
	payloads := []string{"a"}
	for range 1000 {
		payloads = append(payloads, long)
	}
	data := row(payloads...)
	first := func() {
		for range wal.Frames(data) {
			return
		}
	}
	if made := testing.AllocsPerRun(10, first); made > 20 {
		t.Errorf("P13.2: %v pieces of memory made for the first of %d frames", made, len(payloads))
	}
	var before, behind runtime.MemStats
	runtime.ReadMemStats(&before)
	for range 100 {
		first()
	}
	runtime.ReadMemStats(&behind)
	if made := behind.TotalAlloc - before.TotalAlloc; made > 100*2048 {
		t.Errorf("P13.2: %d bytes of memory made for a hundred times a first frame of one byte", made)
	}
}

// TestGoneThroughAgain: an iterator keeps no place: not from one going to the next, nor between two that go on side by side.
func TestGoneThroughAgain(t *testing.T) {
	data := join(row("a", "bb", "ccc"), []byte("torn"))
	frames := wal.Frames(data)
	for range 3 {
		mustGo(t, frames)
		for range frames {
			break
		}
	}
	for end := range frames {
		mustGo(t, frames)
		if end == 19 {
			break
		}
	}
	mustGo(t, frames)

	next, stop := iter.Pull2(frames)
	defer stop()
	other, halt := iter.Pull2(frames)
	defer halt()
	for i, want := range []string{"a", "bb", "ccc"} {
		_, one, ok := next()
		_, two, too := other()
		if string(one) != want || string(two) != want || !ok || !too {
			t.Errorf("P13.2: frame %d: %q and %q side by side, want %q", i, one, two, want)
		}
	}
	if _, _, ok := next(); ok {
		t.Error("P13.2: more than three frames")
	}
}

func mustGo(t *testing.T, frames iter.Seq2[int, []byte]) {
	t.Helper()
	var ends []int
	var got [][]byte
	for end, payload := range frames {
		ends, got = append(ends, end), append(got, payload)
	}
	if !same(got, []string{"a", "bb", "ccc"}) || len(ends) != 3 || ends[0] != 9 || ends[1] != 19 || ends[2] != 30 {
		t.Errorf("P13.2: gone through again: %v, %q", ends, texts(got))
	}
}

// TestLooksAtDataAsItIsThen: nothing is read until somebody goes through.
func TestLooksAtDataAsItIsThen(t *testing.T) {
	data := row("a", "b")
	frames := wal.Frames(data)
	copy(data[9:], plain("c"))
	var got []string
	for _, payload := range frames {
		got = append(got, string(payload))
	}
	if strings.Join(got, "") != "ac" {
		t.Errorf("P13.2: the iterator tells %q, not what lies there now", got)
	}
}
