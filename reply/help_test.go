package reply_test

import (
	"fmt"
	"math/rand"
	"regexp"
	"slices"
	"strconv"
	"strings"
	"testing"

	"usher/api"
	"usher/reply"
)

// phrases is the chapter's table.
var phrases = map[int]string{
	200: "OK",
	302: "Found",
	303: "See Other",
	400: "Bad Request",
	401: "Unauthorized",
	403: "Forbidden",
	404: "Not Found",
	405: "Method Not Allowed",
	413: "Content Too Large",
	415: "Unsupported Media Type",
	417: "Expectation Failed",
	429: "Too Many Requests",
	431: "Request Header Fields Too Large",
	500: "Internal Server Error",
	501: "Not Implemented",
	503: "Service Unavailable",
	505: "HTTP Version Not Supported",
}

// The chapter's forms as expressions, over texts that wide has made.
const (
	tokenForm = "[A-Za-z0-9!#$%&'*+.^_|~\\x60-]+"
	valueForm = `(?:[\x21-\x7e\x{80}-\x{ff}](?:[\t\x20-\x7e\x{80}-\x{ff}]*[\x21-\x7e\x{80}-\x{ff}])?)?`
)

var (
	wholeName      = regexp.MustCompile(`\A` + tokenForm + `\z`)
	wholeValue     = regexp.MustCompile(`\A` + valueForm + `\z`)
	wholeFieldLine = regexp.MustCompile(`\A` + tokenForm + `: ` + valueForm + `\z`)
	wholeFirstLine = regexp.MustCompile(`\AHTTP/1\.1 ([0-9]{3}) ([A-Za-z ]+)\z`)
	wholeLength    = regexp.MustCompile(`\AContent-Length: (0|[1-9][0-9]{0,6})\z`)
	wholeOption    = regexp.MustCompile(`\AConnection: (close|keep-alive)\z`)
	keptName       = regexp.MustCompile(`\A(?:[Cc][Oo][Nn][Tt][Ee][Nn][Tt]-[Ll][Ee][Nn][Gg][Tt][Hh]|[Cc][Oo][Nn][Nn][Ee][Cc][Tt][Ii][Oo][Nn]|[Tt][Rr][Aa][Nn][Ss][Ff][Ee][Rr]-[Ee][Nn][Cc][Oo][Dd][Ii][Nn][Gg])\z`)
)

// wide makes a rune of each byte, so that an expression speaks of bytes.
func wide(s string) string {
	runes := make([]rune, len(s))
	for i := range runes {
		runes[i] = rune(s[i])
	}
	return string(runes)
}

func oneByte(n int) string {
	return string([]byte{byte(n)})
}

// everyByte is the 256 bytes, rising.
func everyByte() string {
	b := make([]byte, 256)
	for i := range b {
		b[i] = byte(i)
	}
	return string(b)
}

// noise is size bytes out of those of from, the same ones for the same source.
func noise(random *rand.Rand, from string, size int) string {
	b := make([]byte, size)
	for i := range b {
		b[i] = from[random.Intn(len(from))]
	}
	return string(b)
}

// changedAt hands on each text that comes of s with a byte taken out, put in or changed, at every place.
func changedAt(s string, play func(string)) {
	for at := range len(s) + 1 {
		if at < len(s) {
			play(s[:at] + s[at+1:])
			play(s[:at])
			play(s[at:])
		}
		for n := range 256 {
			play(s[:at] + oneByte(n) + s[at:])
			if at < len(s) {
				play(s[:at] + oneByte(n) + s[at+1:])
			}
		}
	}
}

// grow hands on each text of up to so many of the parts.
func grow(s string, parts []string, more int, play func(string)) {
	play(s)
	for _, part := range parts {
		if more > 0 {
			grow(s+part, parts, more-1, play)
		}
	}
}

func pairs(list ...string) []api.Pair {
	var l []api.Pair
	for i := 0; i < len(list); i += 2 {
		l = append(l, api.Pair{Name: list[i], Value: list[i+1]})
	}
	return l
}

// numbered is so many fields, all of them sound.
func numbered(count int) []api.Pair {
	var l []api.Pair
	for i := range count {
		l = append(l, api.Pair{Name: "X-" + strconv.Itoa(i), Value: strconv.Itoa(i)})
	}
	return l
}

func ok(fields []api.Pair, body string) api.Reply {
	return api.Reply{Status: 200, Fields: fields, Body: body}
}

func same(a, b api.Reply) bool {
	return a.Status == b.Status && slices.Equal(a.Fields, b.Fields) && a.Body == b.Body && a.Close == b.Close
}

// short tells of an answer without telling all of a long one.
func short(r api.Reply) string {
	return fmt.Sprintf("{%d %.300q %.60q %v}", r.Status, fmt.Sprint(r.Fields), r.Body, r.Close)
}

// expectedFit: may the field stand in an answer? Found by expressions.
func expectedFit(f api.Pair) bool {
	return wholeName.MatchString(wide(f.Name)) && !keptName.MatchString(wide(f.Name)) && wholeValue.MatchString(wide(f.Value))
}

func expectedRender(r api.Reply, bare bool) (string, error) {
	if len(r.Fields) > 64 || len(r.Body) > 1048576 {
		return "", api.ErrMany
	}
	if phrases[r.Status] == "" {
		return "", api.ErrArg
	}
	s := fmt.Sprintf("HTTP/1.1 %03d %s\r\n", r.Status, phrases[r.Status])
	for _, f := range r.Fields {
		if !expectedFit(f) {
			return "", api.ErrArg
		}
		s += f.Name + ": " + f.Value + "\r\n"
	}
	s += fmt.Sprintf("Content-Length: %d\r\nConnection: %s\r\n\r\n", len(r.Body), map[bool]string{true: "close", false: "keep-alive"}[r.Close])
	if !bare {
		s += r.Body
	}
	return s, nil
}

// expectedHead reads the lines of a head from its last one up, but for the empty one.
func expectedHead(lines []string) (api.Reply, int, bool) {
	count := len(lines)
	if count < 3 || count > 67 {
		return api.Reply{}, 0, false
	}
	option := wholeOption.FindStringSubmatch(wide(lines[count-1]))
	length := wholeLength.FindStringSubmatch(wide(lines[count-2]))
	first := wholeFirstLine.FindStringSubmatch(wide(lines[0]))
	if option == nil || length == nil || first == nil {
		return api.Reply{}, 0, false
	}
	r := api.Reply{Close: option[1] == "close"}
	r.Status, _ = strconv.Atoi(first[1])
	size, _ := strconv.Atoi(length[1])
	sound := phrases[r.Status] == first[2] && size <= 1048576
	for _, line := range lines[1 : count-2] {
		name, value, _ := strings.Cut(line, ": ")
		r.Fields = append(r.Fields, api.Pair{Name: name, Value: value})
		sound = sound && wholeFieldLine.MatchString(wide(line)) && !keptName.MatchString(wide(name))
	}
	return r, size, sound
}

func expectedRead(s string) (api.Reply, int, error) {
	end := strings.Index(s, "\r\n\r\n")
	if end < 0 {
		return api.Reply{}, 0, api.ErrShort
	}
	r, size, sound := expectedHead(strings.Split(s[:end], "\r\n"))
	if !sound {
		return api.Reply{}, 0, api.ErrText
	}
	if end+4+size > len(s) {
		return api.Reply{}, 0, api.ErrShort
	}
	r.Body = s[end+4 : end+4+size]
	return r, end + 4 + size, nil
}

func mustRender(t *testing.T, r api.Reply, bare bool, want string) {
	t.Helper()
	if got, err := reply.Render(r, bare); got != want || err != nil {
		t.Errorf("P8.2: Render(%s, %v) = %.300q, %v, want %.300q", short(r), bare, got, err, want)
	}
	if got, err := expectedRender(r, bare); got != want || err != nil {
		t.Errorf("P8.2: of %s the expressions expect %.300q, %v, want %.300q", short(r), got, err, want)
	}
}

// mustNotRender: refused, whatever bare is.
func mustNotRender(t *testing.T, r api.Reply, refusal error) {
	t.Helper()
	for _, bare := range []bool{false, true} {
		if got, err := reply.Render(r, bare); got != "" || err != refusal {
			t.Errorf("P8.2: Render(%s, %v) = %.300q, %v, want nothing and %v", short(r), bare, got, err, refusal)
		}
		if got, err := expectedRender(r, bare); got != "" || err != refusal {
			t.Errorf("P8.2: of %s the expressions expect %.300q, %v, want %v", short(r), got, err, refusal)
		}
	}
}

func mustRenderAsExpected(t *testing.T, r api.Reply) {
	t.Helper()
	for _, bare := range []bool{false, true} {
		got, err := reply.Render(r, bare)
		if want, refusal := expectedRender(r, bare); got != want || err != refusal {
			t.Errorf("P8.2: Render(%s, %v) = %.300q, %v, want %.300q, %v", short(r), bare, got, err, want, refusal)
		}
	}
}

func mustRead(t *testing.T, rule, s string, r api.Reply, size int) {
	t.Helper()
	if got, n, err := reply.Read(s); !same(got, r) || n != size || err != nil {
		t.Errorf("%s: Read(%.300q) = %s, %d, %v, want %s, %d", rule, s, short(got), n, err, short(r), size)
	}
	if got, n, err := expectedRead(s); !same(got, r) || n != size || err != nil {
		t.Errorf("%s: of %.300q the expressions expect %s, %d, %v, want %s, %d", rule, s, short(got), n, err, short(r), size)
	}
}

func mustNotRead(t *testing.T, rule, s string, refusal error) {
	t.Helper()
	if got, n, err := reply.Read(s); !same(got, api.Reply{}) || n != 0 || err != refusal {
		t.Errorf("%s: Read(%.300q) = %s, %d, %v, want zero, 0, %v", rule, s, short(got), n, err, refusal)
	}
	if got, n, err := expectedRead(s); !same(got, api.Reply{}) || n != 0 || err != refusal {
		t.Errorf("%s: of %.300q the expressions expect %s, %d, %v, want zero, 0, %v", rule, s, short(got), n, err, refusal)
	}
}

func mustReadAsExpected(t *testing.T, rule, s string) {
	t.Helper()
	got, n, err := reply.Read(s)
	if want, size, refusal := expectedRead(s); !same(got, want) || n != size || err != refusal {
		t.Errorf("%s: Read(%.300q) = %s, %d, %v, want %s, %d, %v", rule, s, short(got), n, err, short(want), size, refusal)
	}
}

// written is what Render writes for an answer that it takes.
func written(t *testing.T, r api.Reply) string {
	t.Helper()
	s, err := reply.Render(r, false)
	if s == "" || err != nil {
		t.Fatalf("P8.2: Render(%s) = %.300q, %v", short(r), s, err)
	}
	return s
}
