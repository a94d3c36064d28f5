package intake_test

import (
	"math/big"
	"math/rand"
	"regexp"
	"slices"
	"strconv"
	"strings"
	"testing"

	"usher/api"
	"usher/intake"
)

// The chapter's forms as expressions, over texts that wide has made.
const (
	tokenForm   = "[A-Za-z0-9!#$%&'*+.^_|~\\x60-]+"
	valueBytes  = `[\t\x20-\x7e\x{80}-\x{ff}]*`
	visibleForm = `[\x21-\x7e]*`
	hostForm    = `[\x21-\x2e\x30-\x3e\x40-\x7e]+`
)

var (
	wholeRequestLine = regexp.MustCompile(`\A(` + tokenForm + `) (?:(/` + visibleForm + `)|[Hh][Tt][Tt][Pp][Ss]?://` + hostForm + `([/?]` + visibleForm + `)?) HTTP/([0-9]\.[0-9])\z`)
	wholeFieldLine   = regexp.MustCompile(`\A` + tokenForm + `:` + valueBytes + `\z`)
	wholeSizeLine    = regexp.MustCompile(`\A([0-9A-Fa-f]{1,8})(?:;` + valueBytes + `)?\z`)
	wholeNumber      = regexp.MustCompile(`\A[0-9]+\z`)
	chunkedInAnyCase = regexp.MustCompile(`\A[Cc][Hh][Uu][Nn][Kk][Ee][Dd]\z`)
	closeOption      = regexp.MustCompile(`(?:\A|,)[ \t]*[Cc][Ll][Oo][Ss][Ee][ \t]*(?:,|\z)`)
	keepOption       = regexp.MustCompile(`(?:\A|,)[ \t]*[Kk][Ee][Ee][Pp]-[Aa][Ll][Ii][Vv][Ee][ \t]*(?:,|\z)`)
)

// wide makes a rune of each byte, so that an expression speaks of bytes.
func wide(s string) string {
	runes := make([]rune, len(s))
	for i := range runes {
		runes[i] = rune(s[i])
	}
	return string(runes)
}

func oneByte(n int) string {
	return string([]byte{byte(n)})
}

// everyByte is the 256 bytes, rising.
func everyByte() string {
	b := make([]byte, 256)
	for i := range b {
		b[i] = byte(i)
	}
	return string(b)
}

// noise is size bytes out of those of from, the same ones for the same source.
func noise(random *rand.Rand, from string, size int) string {
	b := make([]byte, size)
	for i := range b {
		b[i] = from[random.Intn(len(from))]
	}
	return string(b)
}

// changedAt hands on each text that comes of s with a byte taken out, put in or changed, at every place.
func changedAt(s string, play func(string)) {
	for at := range len(s) + 1 {
		if at < len(s) {
			play(s[:at] + s[at+1:])
			play(s[:at])
			play(s[at:])
		}
		for n := range 256 {
			play(s[:at] + oneByte(n) + s[at:])
			if at < len(s) {
				play(s[:at] + oneByte(n) + s[at+1:])
			}
		}
	}
}

// grow hands on each text of up to so many of the parts.
func grow(s string, parts []string, more int, play func(string)) {
	play(s)
	for _, part := range parts {
		if more > 0 {
			grow(s+part, parts, more-1, play)
		}
	}
}

func pairs(list ...string) []api.Pair {
	var l []api.Pair
	for i := 0; i < len(list); i += 2 {
		l = append(l, api.Pair{Name: list[i], Value: list[i+1]})
	}
	return l
}

func same(a, b api.Request) bool {
	return a.Method == b.Method && a.Target == b.Target && a.Minor == b.Minor && slices.Equal(a.Fields, b.Fields) && a.Body == b.Body && a.Close == b.Close
}

// lot is all that an Intake has answered: the requests, what Next answered behind them, and what was left.
type lot struct {
	requests []api.Request
	number   int
	left     int
}

func sameLot(a, b lot) bool {
	return slices.EqualFunc(a.requests, b.requests, same) && a.number == b.number && a.left == b.left
}

// limits are those of an Intake.
type limits struct{ head, body int }

var (
	little = limits{200, 10}
	most   = limits{65536, 65536}
)

func (l limits) begin(t *testing.T) *intake.Intake {
	t.Helper()
	p, err := intake.New(l.head, l.body)
	if p == nil || err != nil {
		t.Fatalf("P7.1: New(%d, %d) = %v, %v", l.head, l.body, p, err)
	}
	return p
}

// play feeds the chunks, and asks for Next behind each until it does not answer 1.
func (l limits) play(t *testing.T, chunks ...string) lot {
	t.Helper()
	p := l.begin(t)
	var all lot
	for _, chunk := range chunks {
		p.Feed(chunk)
		for all.number = 1; all.number == 1; {
			var q api.Request
			if q, all.number = p.Next(); all.number == 1 {
				all.requests = append(all.requests, q)
			} else if !same(q, api.Request{}) {
				t.Errorf("P7.2: with %d comes %+v", all.number, q)
			}
		}
	}
	all.left = p.Left()
	return all
}

// expected is what play is to answer, found in another way: out of all bytes at once, by expressions.
func (l limits) expected(s string) lot {
	var all lot
	for {
		q, number, size := l.expectedNext(s)
		if number != 1 {
			all.number = number
			if number == 0 {
				all.left = len(s)
			}
			return all
		}
		all.requests = append(all.requests, q)
		if q.Close {
			return all
		}
		s = s[size:]
	}
}

func (l limits) expectedNext(s string) (api.Request, int, int) {
	end := strings.Index(s, "\r\n\r\n") + 4
	if end == 3 || end > l.head {
		if len(s) >= l.head {
			return api.Request{}, 431, 0
		}
		return api.Request{}, 0, 0
	}
	q, refusal := l.expectedHead(s[:end-4])
	if refusal != 0 {
		return api.Request{}, refusal, 0
	}
	if _, count := expectedValue(q.Fields, "transfer-encoding"); count > 0 {
		body, number, size := l.expectedChunks(s[end:])
		if number != 1 {
			return api.Request{}, number, 0
		}
		q.Body = body
		return q, 1, end + size
	}
	text, _ := expectedValue(q.Fields, "content-length")
	size, _ := strconv.Atoi("0" + text)
	if len(s) < end+size {
		return api.Request{}, 0, 0
	}
	q.Body = s[end : end+size]
	return q, 1, end + size
}

// expectedValue is the last value of a name, and how many there are.
func expectedValue(fields []api.Pair, name string) (string, int) {
	value, count := "", 0
	for _, f := range fields {
		if f.Name == name {
			value = f.Value
			count++
		}
	}
	return value, count
}

func expectedTrim(s string) string {
	return strings.Trim(s, " \t")
}

// expectedField reads a field line.
func expectedField(line string) (api.Pair, bool) {
	if !wholeFieldLine.MatchString(wide(line)) {
		return api.Pair{}, false
	}
	name, value, _ := strings.Cut(line, ":")
	return api.Pair{Name: strings.ToLower(name), Value: expectedTrim(value)}, true
}

// expectedHead is the request of a head without its last four bytes, or the refusal.
func (l limits) expectedHead(text string) (api.Request, int) {
	line, rest, more := strings.Cut(text, "\r\n")
	if line == "" && more {
		line, rest, more = strings.Cut(rest, "\r\n")
	}
	found := wholeRequestLine.FindStringSubmatch(wide(line))
	if found == nil {
		return api.Request{}, 400
	}
	if found[4] != "1.0" && found[4] != "1.1" {
		return api.Request{}, 505
	}
	q := api.Request{Method: found[1], Target: found[2] + found[3]}
	if !strings.HasPrefix(q.Target, "/") {
		q.Target = "/" + q.Target
	}
	if found[4] == "1.1" {
		q.Minor = 1
	}
	for more {
		line, rest, more = strings.Cut(rest, "\r\n")
		f, ok := expectedField(line)
		if !ok {
			return api.Request{}, 400
		}
		q.Fields = append(q.Fields, f)
	}
	if refusal := l.expectedRefusal(q); refusal != 0 {
		return api.Request{}, refusal
	}
	q.Close = expectedClose(q)
	return q, 0
}

// expectedRefusal goes down the table of P7.3 behind its row of field lines.
func (l limits) expectedRefusal(q api.Request) int {
	_, hosts := expectedValue(q.Fields, "host")
	coding, codings := expectedValue(q.Fields, "transfer-encoding")
	length, lengths := expectedValue(q.Fields, "content-length")
	_, expects := expectedValue(q.Fields, "expect")
	number, isNumber := new(big.Int).SetString("0"+length, 10)
	for _, row := range []struct {
		number int
		when   bool
	}{
		{431, len(q.Fields) > 64},
		{400, q.Minor == 1 && hosts != 1},
		{400, q.Minor == 0 && hosts > 1},
		{400, codings > 0 && q.Minor == 0},
		{400, codings > 1},
		{400, codings > 0 && lengths > 0},
		{501, codings > 0 && !chunkedInAnyCase.MatchString(wide(coding))},
		{400, lengths > 1},
		{400, lengths > 0 && !wholeNumber.MatchString(wide(length))},
		{413, isNumber && number.Cmp(big.NewInt(int64(l.body))) > 0},
		{417, expects > 0 && q.Minor == 1},
	} {
		if row.when {
			return row.number
		}
	}
	return 0
}

func expectedClose(q api.Request) bool {
	closes, keeps := false, false
	for _, f := range q.Fields {
		closes = closes || f.Name == "connection" && closeOption.MatchString(wide(f.Value))
		keeps = keeps || f.Name == "connection" && keepOption.MatchString(wide(f.Value))
	}
	return closes || q.Minor == 0 && !keeps
}

// expectedChunks is the data of a chunked body, and how many bytes it takes.
func (l limits) expectedChunks(s string) (string, int, int) {
	body, trailer, room, at := "", false, l.head, 0
	for {
		end := strings.Index(s[at:], "\r\n") + 2
		if end == 1 || end > room {
			if len(s)-at >= room {
				return "", 431, 0
			}
			return "", 0, 0
		}
		line := s[at : at+end-2]
		at, room = at+end, room-end
		if trailer {
			if line == "" {
				return body, 1, at
			}
			if _, ok := expectedField(line); !ok {
				return "", 400, 0
			}
			continue
		}
		found := wholeSizeLine.FindStringSubmatch(wide(line))
		if found == nil {
			return "", 400, 0
		}
		size, _ := strconv.ParseInt(found[1], 16, 64)
		switch trailer = size == 0; {
		case trailer:
		case len(body)+int(size) > l.body:
			return "", 413, 0
		case len(s)-at < int(size)+2:
			return "", 0, 0
		case s[at+int(size):at+int(size)+2] != "\r\n":
			return "", 400, 0
		default:
			body += s[at : at+int(size)]
			at += int(size) + 2
		}
	}
}

func mustPlay(t *testing.T, rule string, l limits, s string, want lot) {
	t.Helper()
	if got := l.play(t, s); !sameLot(got, want) {
		t.Errorf("%s: of %.300q comes %+v, want %+v", rule, s, got, want)
	}
	if other := l.expected(s); !sameLot(other, want) {
		t.Errorf("%s: of %.300q the expressions expect %+v, want %+v", rule, s, other, want)
	}
}

// mustTake: these bytes are just this request.
func mustTake(t *testing.T, rule string, l limits, s string, q api.Request) {
	t.Helper()
	mustPlay(t, rule, l, s, lot{requests: []api.Request{q}})
}

func mustRefuse(t *testing.T, rule string, l limits, s string, number int) {
	t.Helper()
	mustPlay(t, rule, l, s, lot{number: number})
}

// mustWant: more bytes are wanted behind these.
func mustWant(t *testing.T, rule string, l limits, s string) {
	t.Helper()
	mustPlay(t, rule, l, s, lot{left: len(s)})
}

func mustPlayAsExpected(t *testing.T, rule string, l limits, s string) {
	t.Helper()
	if got, want := l.play(t, s), l.expected(s); !sameLot(got, want) {
		t.Errorf("%s: of %.300q comes %+v, want %+v", rule, s, got, want)
	}
}

func mustWrite(t *testing.T, q api.Request, want string) {
	t.Helper()
	if got, err := intake.Write(q); got != want || err != nil {
		t.Errorf("P7.7: Write(%+v) = %.300q, %v, want %.300q", q, got, err, want)
	}
}

func mustNotWrite(t *testing.T, q api.Request) {
	t.Helper()
	if got, err := intake.Write(q); got != "" || err != api.ErrText {
		t.Errorf("P7.7: Write(%.300q) = %.300q, %v, want nothing and ErrText", q.Method+q.Target, got, err)
	}
}

func mustChunk(t *testing.T, q api.Request, sizes []int, want string) {
	t.Helper()
	if got, err := intake.Chunked(q, sizes); got != want || err != nil {
		t.Errorf("P7.8: Chunked(%+v, %v) = %.300q, %v, want %.300q", q, sizes, got, err, want)
	}
}

func mustNotChunk(t *testing.T, q api.Request, sizes []int) {
	t.Helper()
	if got, err := intake.Chunked(q, sizes); got != "" || err != api.ErrText {
		t.Errorf("P7.8: Chunked(%.300q) = %.300q, %v, want nothing and ErrText", q.Method+q.Target, got, err)
	}
}
