package reply

import "strconv"

// A status is a row of the table: no answer has another number, and none another phrase.
type status struct {
	number int
	phrase string
}

var statuses = [...]status{
	{200, "OK"},
	{302, "Found"},
	{303, "See Other"},
	{400, "Bad Request"},
	{401, "Unauthorized"},
	{403, "Forbidden"},
	{404, "Not Found"},
	{405, "Method Not Allowed"},
	{413, "Content Too Large"},
	{415, "Unsupported Media Type"},
	{417, "Expectation Failed"},
	{429, "Too Many Requests"},
	{431, "Request Header Fields Too Large"},
	{500, "Internal Server Error"},
	{501, "Not Implemented"},
	{503, "Service Unavailable"},
	{505, "HTTP Version Not Supported"},
}

func (s status) line() string {
	return "HTTP/1.1 " + strconv.Itoa(s.number) + " " + s.phrase
}

// statusOf is the number of a first line, or 0.
func statusOf(line string) int {
	for _, s := range statuses {
		if line == s.line() {
			return s.number
		}
	}
	return 0
}
