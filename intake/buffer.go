package intake

import "bytes"

const crlf = "\r\n"

// buffer is what waits. Its pieces share its memory inside; cut copies what leaves it.
type buffer struct {
	bytes  []byte
	looked int // so many bytes were looked through in vain
}

func (b *buffer) put(chunk string) {
	b.bytes = append(b.bytes, chunk...)
}

func (b *buffer) size() int {
	return len(b.bytes)
}

// find tells where the first mark ends that begins at the place from or behind it, if it ends within the first limit bytes.
// It does not look again where it has looked in vain: else a head that comes byte by byte would be gone through at each of them.
func (b *buffer) find(mark string, from, limit int) (int, bool) {
	begin := max(from, b.looked-len(mark)+1)
	end := min(limit, len(b.bytes))
	at := bytes.Index(b.bytes[begin:end], []byte(mark))
	if at < 0 {
		b.looked = end
		return 0, false
	}
	return begin + at + len(mark), true
}

// cut is a piece as a text.
func (b *buffer) cut(from, to int) string {
	return string(b.bytes[from:to])
}

// drop lets the first bytes go.
func (b *buffer) drop(count int) {
	b.bytes = b.bytes[count:]
	b.looked = 0
}
