package intake

import (
	"strings"

	"usher/api"
	"usher/field"
)

// head is what the lines of a head say: the request, and apart from it the fields on which its body and the connection hang.
type head struct {
	request        api.Request
	hosts, expects int
	codings        []string // the values of transfer-encoding
	lengths        []string // the values of content-length
	options        []string // the parts of connection
}

// judge answers here, or the first refusal that applies.
func judge(text string, bodyMax int) (head, int) {
	var h head
	lines := linesOf(text)
	if number := h.readRequestLine(lines[0]); number != here {
		return head{}, number
	}
	if number := h.readFields(lines[1:]); number != here {
		return head{}, number
	}
	if number := h.weigh(bodyMax); number != here {
		return head{}, number
	}
	h.request.Close = h.closes()
	return h, here
}

// linesOf cuts a head at its line ends. One empty line ahead of a request is let go.
func linesOf(text string) []string {
	lines := strings.Split(text, crlf)
	if lines[0] == "" && len(lines) > 1 {
		return lines[1:]
	}
	return lines
}

func (h *head) readRequestLine(line string) int {
	method, rest, _ := strings.Cut(line, " ")
	target, version, _ := strings.Cut(rest, " ")
	path, ok := pathOf(target)
	if !ok || !field.Token(method) || !isVersion(version) {
		return badRequest
	}
	if version != "HTTP/1.0" && version != "HTTP/1.1" {
		return versionUnsupported
	}
	h.request.Method, h.request.Target = method, path
	h.request.Minor = int(version[len(version)-1] - '0')
	return here
}

// readFields goes through all lines ahead of counting them: a faulty one is a fault also behind too many.
func (h *head) readFields(lines []string) int {
	number := here
fields:
	for _, line := range lines {
		f, ok := readField(line)
		switch {
		case !ok:
			number = badRequest
			break fields
		case f.Name == "host":
			h.hosts++
		case f.Name == "transfer-encoding":
			h.codings = append(h.codings, f.Value)
		case f.Name == "content-length":
			h.lengths = append(h.lengths, f.Value)
		case f.Name == "expect":
			h.expects++
		case f.Name == "connection":
			h.options = append(h.options, strings.Split(f.Value, ",")...)
		}
		h.request.Fields = append(h.request.Fields, f)
	}
	return number
}

func readField(line string) (api.Pair, bool) {
	name, value, colon := strings.Cut(line, ":")
	value = field.Trim(value)
	return api.Pair{Name: small(name), Value: value}, colon && field.Token(name) && field.Value(value)
}

// weigh looks at what the fields say together. The order of its cases is that of the refusals.
func (h *head) weigh(bodyMax int) int {
	latest := h.request.Minor == 1
	switch {
	case len(h.request.Fields) > api.MaxFields:
		return headTooLarge
	case h.hosts > 1, h.hosts == 0 && latest:
		return badRequest
	case h.chunked() && (!latest || len(h.codings) > 1 || len(h.lengths) > 0):
		return badRequest
	case h.chunked() && small(h.codings[0]) != "chunked":
		return notImplemented
	case len(h.lengths) > 1, len(h.lengths) == 1 && !isNumber(h.lengths[0]):
		return badRequest
	case h.size(bodyMax) > bodyMax:
		return bodyTooLarge
	case h.expects > 0 && latest:
		return expectationFailed
	}
	return here
}

func (h *head) chunked() bool {
	return len(h.codings) > 0
}

// size is that of a body that is not chunked, or one more than bodyMax.
func (h *head) size(bodyMax int) int {
	if len(h.lengths) == 0 {
		return 0
	}
	return sizeOf(h.lengths[0], bodyMax)
}

// closes: does the connection end behind this request? A wish to close it goes ahead of a wish to keep it.
func (h *head) closes() bool {
	keep := h.request.Minor == 1
	for _, option := range h.options {
		switch small(field.Trim(option)) {
		case "close":
			return true
		case "keep-alive":
			keep = true
		}
	}
	return !keep
}
