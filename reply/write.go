package reply

import (
	"strconv"
	"strings"

	"usher/api"
)

const (
	crlf       = "\r\n"
	lengthName = "Content-Length: "
	closeLine  = "Connection: close"
	keepLine   = "Connection: keep-alive"
)

// headText names the length of the body also where the body is not written behind it.
func headText(r api.Reply) string {
	var b strings.Builder
	put(&b, status{r.Status, Reason(r.Status)}.line(), crlf)
	for _, f := range r.Fields {
		put(&b, f.Name, ": ", f.Value, crlf)
	}
	put(&b, lengthName, strconv.Itoa(len(r.Body)), crlf)
	put(&b, connectionLine(r.Close), crlf, crlf)
	return b.String()
}

func connectionLine(closes bool) string {
	if closes {
		return closeLine
	}
	return keepLine
}

func put(b *strings.Builder, parts ...string) {
	for _, part := range parts {
		b.WriteString(part)
	}
}
