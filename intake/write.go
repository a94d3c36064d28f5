package intake

import (
	"slices"
	"strconv"
	"strings"

	"usher/api"
)

func headText(q api.Request) string {
	var b strings.Builder
	put(&b, q.Method, " ", q.Target, " HTTP/1.", strconv.Itoa(q.Minor), crlf)
	for _, f := range q.Fields {
		put(&b, f.Name, ": ", f.Value, crlf)
	}
	put(&b, crlf)
	return b.String()
}

func put(b *strings.Builder, parts ...string) {
	for _, part := range parts {
		b.WriteString(part)
	}
}

// withCoding is a list of its own: the room behind the one that came in is not ours to write.
func withCoding(fields []api.Pair) []api.Pair {
	return slices.Concat(fields, []api.Pair{{Name: "transfer-encoding", Value: "chunked"}})
}

func chunksText(body string, sizes []int) string {
	var b strings.Builder
	for _, size := range sizes {
		body = putChunk(&b, body, size)
	}
	putChunk(&b, body, len(body))
	put(&b, "0", crlf, crlf)
	return b.String()
}

// putChunk answers what is left of the body behind the chunk.
func putChunk(b *strings.Builder, body string, size int) string {
	size = min(size, len(body))
	if size < 1 {
		return body
	}
	put(b, strconv.FormatInt(int64(size), 16), crlf, body[:size], crlf)
	return body[size:]
}

// readBack answers the text if an Intake reads just this request out of it: so it is the reader that says what may be written.
func readBack(text string, q api.Request) (string, error) {
	p := Intake{headMax: api.MaxHead, bodyMax: api.MaxBody}
	p.Feed(text)
	if got, number := p.Next(); number != here || !same(got, q) || p.Left() != 0 {
		return "", api.ErrText
	}
	return text, nil
}

func same(a, b api.Request) bool {
	return a.Method == b.Method && a.Target == b.Target && a.Minor == b.Minor && slices.Equal(a.Fields, b.Fields) && a.Body == b.Body && a.Close == b.Close
}
