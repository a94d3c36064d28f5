package wal

import (
	"iter"

	"usher/api"
	"usher/sums"
)

// head is what stands ahead of a frame's payload: its length and its sum, four bytes each.
type head [api.FrameHead]byte

// Frame writes a payload as a frame.
func Frame(payload []byte) ([]byte, error) {
	if !fits(len(payload)) {
		return nil, api.ErrArg
	}
	h := headOf(payload)
	frame := make([]byte, len(h)+len(payload))
	copy(frame, h[:])
	copy(frame[len(h):], payload)
	return frame, nil
}

// Frames goes through the sound frames at the head of data: where each ends, its payload.
func Frames(data []byte) iter.Seq2[int, []byte] {
	return func(yield func(int, []byte) bool) {
		end := 0
		for {
			payload, ok := first(data[end:])
			if !ok {
				return
			}
			end += api.FrameHead + len(payload)
			if !yield(end, payload) {
				return
			}
		}
	}
}

// Scan is the payloads of the sound frames at the head of data, and how many bytes they take.
func Scan(data []byte) ([][]byte, int) {
	var payloads [][]byte
	length := 0
	for end, payload := range Frames(data) {
		payloads = append(payloads, payload)
		length = end
	}
	return payloads, length
}

// first is a copy of the payload of the sound frame with which data begins, if there is one.
func first(data []byte) ([]byte, bool) {
	if len(data) < api.FrameHead {
		return nil, false
	}
	h, rest := head(data[:api.FrameHead]), data[api.FrameHead:]
	n := h.length()
	if !fits(n) || n > len(rest) || h != headOf(rest[:n]) {
		return nil, false
	}
	payload := make([]byte, n)
	copy(payload, rest)
	return payload, true
}

// fits: may a payload have n bytes? What is written and what is read are held to one rule, so that nothing lasts that could not be read again.
func fits(n int) bool { return n >= 1 && n <= api.MaxPayload }

// headOf is the head of a payload's frame.
func headOf(payload []byte) head {
	var h head
	writeNumber(h[:4], uint32(len(payload)))
	sum := sums.CrcMore(sums.Crc(string(h[:4])), string(payload))
	writeNumber(h[4:], sum)
	return h
}

// length is how long the payload is by its head.
func (h head) length() int {
	n := 0
	for _, b := range h[:4] {
		n = n<<8 | int(b)
	}
	return n
}

// writeNumber writes a number into the bytes of to, the highest eight bits first.
func writeNumber(to []byte, number uint32) {
	for i := range to {
		to[len(to)-1-i] = byte(number >> (8 * i))
	}
}
