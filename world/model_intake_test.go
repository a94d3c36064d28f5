package world_test

import (
	"regexp"
	"strconv"
	"strings"

	"usher/api"
)

var (
	requestLine = regexp.MustCompile("^([!#$%&'*+\\-.^_|~`0-9A-Za-z]+) ([\x21-\x7e]+) HTTP/([0-9])\\.([0-9])$")
	absolute    = regexp.MustCompile("^(?i:https?)://[^/?]+(.*)$")
	tokenText   = regexp.MustCompile("^[!#$%&'*+\\-.^_|~`0-9A-Za-z]+$")
	sizeDigits  = regexp.MustCompile("^[0-9a-fA-F]{1,8}$")
	digitsAlone = regexp.MustCompile("^[0-9]+$")
)

// smallLetters turns A to Z alone.
func smallLetters(s string) string {
	return strings.Map(func(r rune) rune {
		if 'A' <= r && r <= 'Z' {
			return r + 'a' - 'A'
		}
		return r
	}, s)
}

// isValue: tab, blank to tilde, and what is above 0x7F.
func isValue(s string) bool {
	for i := range len(s) {
		if s[i] != '\t' && s[i] < 0x20 || s[i] == 0x7f {
			return false
		}
	}
	return true
}

func fieldOf(line string) (api.Pair, bool) {
	name, value, found := strings.Cut(line, ":")
	value = strings.Trim(value, " \t")
	if !found || !tokenText.MatchString(name) || !isValue(value) {
		return api.Pair{}, false
	}
	return api.Pair{Name: smallLetters(name), Value: value}, true
}

func valuesOf(fields []api.Pair, name string) []string {
	var list []string
	for _, f := range fields {
		if smallLetters(f.Name) == name {
			list = append(list, f.Value)
		}
	}
	return list
}

// modelParse reads what waits from its beginning: the request, how many bytes it takes, and 1; or 0; or a refusal. Chapter 7.
func modelParse(data string, headMax, bodyMax int) (api.Request, int, int) {
	end := strings.Index(data, "\r\n\r\n") + 4
	if end == 3 || end > headMax {
		if len(data) >= headMax {
			return api.Request{}, 0, 431
		}
		return api.Request{}, 0, 0
	}
	q, number := modelHead(data[:end-4])
	if number != 1 {
		return api.Request{}, 0, number
	}
	size, isChunked, number := modelFraming(q, bodyMax)
	if number != 1 {
		return api.Request{}, 0, number
	}
	if isChunked {
		c := modelChunks{data: data, at: end, room: headMax, most: bodyMax}
		if number = c.read(); number != 1 {
			return api.Request{}, 0, number
		}
		q.Body = c.body
		return q, c.at, 1
	}
	if len(data) < end+size {
		return api.Request{}, 0, 0
	}
	q.Body = data[end : end+size]
	return q, end + size, 1
}

// modelHead reads the request line and the fields.
func modelHead(head string) (api.Request, int) {
	lines := strings.Split(head, "\r\n")
	if lines[0] == "" && len(lines) > 1 {
		lines = lines[1:]
	}
	first := requestLine.FindStringSubmatch(lines[0])
	if first == nil {
		return api.Request{}, 400
	}
	q := api.Request{Method: first[1], Target: first[2]}
	if !strings.HasPrefix(q.Target, "/") {
		behind := absolute.FindStringSubmatch(q.Target)
		if behind == nil {
			return api.Request{}, 400
		}
		if q.Target = behind[1]; !strings.HasPrefix(q.Target, "/") {
			q.Target = "/" + q.Target
		}
	}
	if first[3] != "1" || first[4] != "0" && first[4] != "1" {
		return api.Request{}, 505
	}
	q.Minor = int(first[4][0] - '0')
	for _, line := range lines[1:] {
		f, ok := fieldOf(line)
		if !ok {
			return api.Request{}, 400
		}
		q.Fields = append(q.Fields, f)
	}
	if len(q.Fields) > 64 {
		return api.Request{}, 431
	}
	q.Close = isClosing(q)
	return q, 1
}

// isClosing: P7.6.
func isClosing(q api.Request) bool {
	keeps := false
	for _, value := range valuesOf(q.Fields, "connection") {
		for _, part := range strings.Split(value, ",") {
			switch smallLetters(strings.Trim(part, " \t")) {
			case "close":
				return true
			case "keep-alive":
				keeps = true
			}
		}
	}
	return q.Minor == 0 && !keeps
}

// modelFraming is how long the body is, or that it is chunked.
func modelFraming(q api.Request, bodyMax int) (size int, isChunked bool, number int) {
	hosts, codings, lengths := valuesOf(q.Fields, "host"), valuesOf(q.Fields, "transfer-encoding"), valuesOf(q.Fields, "content-length")
	if len(hosts) > 1 || q.Minor == 1 && len(hosts) != 1 {
		return 0, false, 400
	}
	if len(codings) > 0 && (q.Minor == 0 || len(codings) > 1 || len(lengths) > 0) {
		return 0, false, 400
	}
	if len(codings) > 0 && smallLetters(codings[0]) != "chunked" {
		return 0, false, 501
	}
	if len(lengths) > 1 || len(lengths) == 1 && !digitsAlone.MatchString(lengths[0]) {
		return 0, false, 400
	}
	if len(lengths) == 1 {
		digits := strings.TrimLeft(lengths[0], "0")
		if len(digits) > 9 {
			return 0, false, 413
		}
		if size, _ = strconv.Atoi("0" + digits); size > bodyMax {
			return 0, false, 413
		}
	}
	if q.Minor == 1 && len(valuesOf(q.Fields, "expect")) > 0 {
		return 0, false, 417
	}
	return size, len(codings) > 0, 1
}

// modelChunks: P7.5.
type modelChunks struct {
	data       string
	at         int
	room, most int
	body       string
}

func (c *modelChunks) line() (string, int) {
	rest := c.data[c.at:]
	end := strings.Index(rest, "\r\n")
	if end < 0 || end+2 > c.room {
		if len(rest) >= c.room {
			return "", 431
		}
		return "", 0
	}
	c.at += end + 2
	c.room -= end + 2
	return rest[:end], 1
}

func (c *modelChunks) read() int {
	for {
		line, number := c.line()
		if number != 1 {
			return number
		}
		digits, extension, _ := strings.Cut(line, ";")
		if !sizeDigits.MatchString(digits) || !isValue(extension) {
			return 400
		}
		size, _ := strconv.ParseInt(digits, 16, 64)
		if len(c.body)+int(size) > c.most {
			return 413
		}
		if size == 0 {
			return c.trailers()
		}
		end := c.at + int(size)
		if len(c.data) < end+2 {
			return 0
		}
		if c.data[end:end+2] != "\r\n" {
			return 400
		}
		c.body += c.data[c.at:end]
		c.at = end + 2
	}
}

func (c *modelChunks) trailers() int {
	for {
		line, number := c.line()
		if number != 1 || line == "" {
			return number
		}
		if _, ok := fieldOf(line); !ok {
			return 400
		}
	}
}
