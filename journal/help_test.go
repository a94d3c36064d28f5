package journal_test

import (
	"fmt"
	"math"
	"math/rand"
	"regexp"
	"slices"
	"strconv"
	"strings"
	"testing"
	"time"

	"usher/api"
	"usher/journal"
)

const (
	maxSeconds = 253402300799
	daySeconds = 86400
	lastDay    = maxSeconds / daySeconds
)

// noSeconds are numbers that are no second.
var noSeconds = []int{-1, -2, -daySeconds, maxSeconds + 1, maxSeconds + 2, math.MinInt, math.MaxInt, 1 << 40}

// The calendar of the library.

func moment(second int) time.Time { return time.Unix(int64(second), 0).UTC() }

func dateAt(second int) api.Date {
	m := moment(second)
	return api.Date{Year: m.Year(), Month: int(m.Month()), Day: m.Day(), Hour: m.Hour(), Minute: m.Minute(), Second: m.Second(), Weekday: int(m.Weekday())}
}

// secondAt is the second of a day's beginning.
func secondAt(year, month, day int) int {
	return int(time.Date(year, time.Month(month), day, 0, 0, 0, 0, time.UTC).Unix())
}

// modelSeconds is the second of a date, and whether there is one.
func modelSeconds(d api.Date) (int, bool) {
	for _, n := range []int{d.Year, d.Month, d.Day, d.Hour, d.Minute, d.Second, d.Weekday} {
		if n < 0 || n > 9999 {
			return 0, false
		}
	}
	second := int(time.Date(d.Year, time.Month(d.Month), d.Day, d.Hour, d.Minute, d.Second, 0, time.UTC).Unix())
	if second < 0 || second > maxSeconds || dateAt(second) != d {
		return 0, false
	}
	return second, true
}

// The forms of a date, as expressions.

const (
	dayForm   = `(Sun|Mon|Tue|Wed|Thu|Fri|Sat)`
	fullForm  = `(Sun|Mon|Tues|Wednes|Thurs|Fri|Satur)day`
	monthForm = `(Jan|Feb|Mar|Apr|May|Jun|Jul|Aug|Sep|Oct|Nov|Dec)`
	clockForm = `([0-9][0-9]):([0-9][0-9]):([0-9][0-9])`
)

var (
	fixForm  = regexp.MustCompile(`\A` + dayForm + `, ([0-9]{2}) ` + monthForm + ` ([0-9]{4}) ` + clockForm + ` GMT\z`)
	oldForm  = regexp.MustCompile(`\A` + fullForm + `, ([0-9]{2})-` + monthForm + `-([0-9]{2}) ` + clockForm + ` GMT\z`)
	unixForm = regexp.MustCompile(`\A` + dayForm + ` ` + monthForm + ` ([ 0-9][0-9]) ` + clockForm + ` ([0-9]{4})\z`)
	names    = []string{"Jan", "Feb", "Mar", "Apr", "May", "Jun", "Jul", "Aug", "Sep", "Oct", "Nov", "Dec"}
	days     = []string{"Sun", "Mon", "Tue", "Wed", "Thu", "Fri", "Sat"}
)

func number(t string) int {
	n, _ := strconv.Atoi(strings.TrimSpace(t))
	return n
}

// clock puts a time of three texts into a date.
func clock(d api.Date, parts []string) api.Date {
	d.Hour, d.Minute, d.Second = number(parts[0]), number(parts[1]), number(parts[2])
	return d
}

// modelReadDate is P21.3 by expressions and the library's calendar, for a now that is a second.
func modelReadDate(s string, now int) (int, bool) {
	var d api.Date
	var day, month string
	if p := fixForm.FindStringSubmatch(s); p != nil {
		day, month = p[1], p[3]
		d = clock(api.Date{Day: number(p[2]), Year: number(p[4])}, p[5:8])
	} else if p := oldForm.FindStringSubmatch(s); p != nil {
		day, month = p[1][:3], p[3]
		d = clock(api.Date{Day: number(p[2]), Year: min(moment(now).Year()+50, 9999)}, p[5:8])
		for d.Year%100 != number(p[4]) {
			d.Year--
		}
	} else if p := unixForm.FindStringSubmatch(s); p != nil {
		day, month = p[1], p[2]
		d = clock(api.Date{Day: number(p[3]), Year: number(p[7])}, p[4:7])
	} else {
		return 0, false
	}
	d.Weekday, d.Month = slices.Index(days, day), slices.Index(names, month)+1
	return modelSeconds(d)
}

// The three texts of a second.

func fixText(second int) string { return moment(second).Format("Mon, 02 Jan 2006 15:04:05 GMT") }

func oldText(second int) string { return moment(second).Format("Monday, 02-Jan-06 15:04:05 GMT") }

func unixText(second int) string { return moment(second).Format("Mon Jan _2 15:04:05 2006") }

func texts(second int) []string {
	return []string{fixText(second), oldText(second), unixText(second), moment(second).Format("Mon Jan 02 15:04:05 2006")}
}

// Lines, by the library's means.

func modelEscape(s string) string {
	switch s {
	case "":
		return "-"
	case "-":
		return `\x2d`
	}
	var b strings.Builder
	for _, c := range []byte(s) {
		if c < 0x21 || c > 0x7e || c == '"' || c == '\\' {
			fmt.Fprintf(&b, `\x%02x`, c)
		} else {
			b.WriteByte(c)
		}
	}
	return b.String()
}

// modelLine writes an entry that may be.
func modelLine(e api.Entry) string {
	request := "-"
	if e.Method != "" {
		request = fmt.Sprintf("%s %s HTTP/1.%d", e.Method, modelEscape(e.Target), e.Minor)
	}
	return fmt.Sprintf(`%d - %s [%s +0000] "%s" %d %d "%s" "%s"`, e.Conn, modelEscape(e.User), moment(e.At).Format("02/Jan/2006:15:04:05"), request, e.Status, e.Bytes, modelEscape(e.Referer), modelEscape(e.Agent))
}

const textForm = `((?:[!#-\[\]-~]|\\x[0-9a-f][0-9a-f])+)`

var (
	lineForm   = regexp.MustCompile(`\A(0|[1-9]|1[0-5]) - ` + textForm + ` \[([0-9]{2})/` + monthForm + `/([0-9]{4}):` + clockForm + ` \+0000\] "(?:-|([!#$%&'*+.^_|~\x60A-Za-z0-9-]+) (/` + textForm + `?) HTTP/1\.([01]))" ([1-5][0-9][0-9]) (0|[1-9][0-9]{0,18}) "` + textForm + `" "` + textForm + `"\z`)
	escapeForm = regexp.MustCompile(`\\x[0-9a-f][0-9a-f]`)
)

// modelUnescape reads an escaped text; false, if it is not as an escaped text is.
func modelUnescape(s string) (string, bool) {
	if s == "-" {
		return "", true
	}
	plain := escapeForm.ReplaceAllStringFunc(s, func(e string) string {
		n, _ := strconv.ParseUint(e[2:], 16, 8)
		return string([]byte{byte(n)})
	})
	return plain, modelEscape(plain) == s
}

// modelReadLine is P21.5 by an expression.
func modelReadLine(s string) (api.Entry, bool) {
	p := lineForm.FindStringSubmatch(s)
	if p == nil {
		return api.Entry{}, false
	}
	d := clock(api.Date{Day: number(p[3]), Month: slices.Index(names, p[4]) + 1, Year: number(p[5])}, p[6:9])
	at, found := 0, false
	for d.Weekday = 0; d.Weekday < 7 && !found; d.Weekday++ {
		at, found = modelSeconds(d)
	}
	size, err := strconv.Atoi(p[14])
	user, isUser := modelUnescape(p[2])
	referer, isReferer := modelUnescape(p[15])
	agent, isAgent := modelUnescape(p[16])
	target, isTarget := "", true
	if p[9] != "" {
		target, isTarget = modelUnescape(p[10])
	}
	if !found || err != nil || !isUser || !isReferer || !isAgent || !isTarget || strings.ContainsFunc(target, func(r rune) bool { return r < 0x21 || r > 0x7e }) {
		return api.Entry{}, false
	}
	return api.Entry{Conn: number(p[1]), User: user, At: at, Method: p[9], Target: target, Minor: number(p[12]), Status: number(p[13]), Bytes: size, Referer: referer, Agent: agent}, true
}

// Entries.

// first is the chapter's entry.
func first() api.Entry {
	return api.Entry{User: "ann", At: 784111777, Method: "GET", Target: "/a", Minor: 1, Status: 200, Bytes: 5, Agent: `x "y"`}
}

const firstLine = `0 - ann [06/Nov/1994:08:49:37 +0000] "GET /a HTTP/1.1" 200 5 "-" "x\x20\x22y\x22"`

// bare is an entry without a request.
func bare() api.Entry { return api.Entry{Conn: 15, Status: 431} }

const bareLine = `15 - - [01/Jan/1970:00:00:00 +0000] "-" 431 0 "-" "-"`

// everyByte is the 256 bytes, rising.
func everyByte() string {
	b := make([]byte, 256)
	for i := range b {
		b[i] = byte(i)
	}
	return string(b)
}

func oneOf[T any](random *rand.Rand, list ...T) T { return list[random.Intn(len(list))] }

// oddText is a text that somebody may have sent.
func oddText(random *rand.Rand) string {
	switch random.Intn(6) {
	case 0:
		return ""
	case 1:
		return oneOf(random, "-", "--", `"`, `\`, " ", "\n", "\r\n", `" "`, `\x2d`, `\x`, `\\x22`, `" 200 5 "-" "-"`+"\n"+bareLine, "Mozilla/5.0 (X11; Linux x86_64)", "é", "\x00", "\x7f", "\xff")
	}
	return noise(random, oneOf(random, everyByte(), `-"\x2d `, "abc"), random.Intn(12))
}

// noise is size bytes out of those of from.
func noise(random *rand.Rand, from string, size int) string {
	b := make([]byte, size)
	for i := range b {
		b[i] = from[random.Intn(len(from))]
	}
	return string(b)
}

const (
	tokenBytes  = "!#$%&'*+-.^_`|~0123456789ABCDEFGHIJKLMNOPQRSTUVWXYZabcdefghijklmnopqrstuvwxyz"
	targetBytes = "!\"#$%&'()*+,-./0123456789:;<=>?@ABCDEFGHIJKLMNOPQRSTUVWXYZ[\\]^_`abcdefghijklmnopqrstuvwxyz{|}~"
)

// anEntry is one that may be.
func anEntry(random *rand.Rand) api.Entry {
	e := api.Entry{
		Conn: random.Intn(16), User: oddText(random), At: oneOf(random, 0, maxSeconds, random.Intn(maxSeconds+1), random.Intn(2000000000)),
		Status: oneOf(random, 100, 599, 100+random.Intn(500)), Bytes: oneOf(random, 0, 9, 10, random.Intn(100000), math.MaxInt), Referer: oddText(random), Agent: oddText(random),
	}
	if random.Intn(4) > 0 {
		e.Method = oneOf(random, "GET", "POST", "-", "x", noise(random, tokenBytes, 1+random.Intn(6)))
		e.Target = oneOf(random, "/", "/a", `/"`, `/\x22`, `/\`, "/"+noise(random, targetBytes, random.Intn(20)))
		e.Minor = random.Intn(2)
	}
	return e
}

// The calls, and what they must answer.

func mustBeSecond(t *testing.T, s string, now, want int) {
	t.Helper()
	if got, err := journal.ReadDate(s, now); got != want || err != nil {
		t.Errorf("P21.3: ReadDate(%q, %d) = %d, %v, want %d", s, now, got, err, want)
	}
}

func mustBeNoDate(t *testing.T, s string, now int) {
	t.Helper()
	if got, err := journal.ReadDate(s, now); got != 0 || err != api.ErrText {
		t.Errorf("P21.3: ReadDate(%q, %d) = %d, %v, want ErrText", s, now, got, err)
	}
}

// mustBeAsModel holds ReadDate against the model.
func mustBeAsModel(t *testing.T, s string, now int) {
	t.Helper()
	if want, found := modelReadDate(s, now); found {
		mustBeSecond(t, s, now, want)
	} else {
		mustBeNoDate(t, s, now)
	}
}

// mustBeLine holds Line and ReadLine against a line.
func mustBeLine(t *testing.T, e api.Entry, want string) {
	t.Helper()
	if got, err := journal.Line(e); got != want || err != nil {
		t.Errorf("P21.4: Line(%+v) = %q, %v, want %q", e, got, err, want)
	}
	if got, err := journal.ReadLine(want); got != e || err != nil {
		t.Errorf("P21.5: ReadLine(%q) = %+v, %v, want %+v", want, got, err, e)
	}
}

func mustNotBe(t *testing.T, e api.Entry) {
	t.Helper()
	if got, err := journal.Line(e); got != "" || err != api.ErrArg {
		t.Errorf("P21.4: Line(%+v) = %q, %v, want ErrArg", e, got, err)
	}
	for _, l := range [][]api.Entry{{e}, {e, first()}, {first(), e}, {first(), e, bare()}} {
		if got, err := journal.Lines(l); got != "" || err != api.ErrArg {
			t.Errorf("P21.6: Lines(%+v) = %q, %v, want ErrArg", l, got, err)
		}
	}
}

func mustBeNoLine(t *testing.T, s string) {
	t.Helper()
	if got, err := journal.ReadLine(s); got != (api.Entry{}) || err != api.ErrText {
		t.Errorf("P21.5: ReadLine(%q) = %+v, %v, want ErrText", s, got, err)
	}
}

// mustReadAsModel holds ReadLine against the model.
func mustReadAsModel(t *testing.T, s string) {
	t.Helper()
	want, found := modelReadLine(s)
	if !found {
		mustBeNoLine(t, s)
		return
	}
	if got, err := journal.ReadLine(s); got != want || err != nil {
		t.Errorf("P21.5: ReadLine(%q) = %+v, %v, want %+v", s, got, err, want)
	}
}

// changed goes through the texts that are one change away from s: a byte another one of these bytes, one of them more, one less, two swapped, cut at either end.
func changed(s, bytes string, look func(string)) {
	for i := range len(s) {
		for _, b := range []byte(bytes) {
			look(s[:i] + string([]byte{b}) + s[i+1:])
			look(s[:i] + string([]byte{b}) + s[i:])
		}
		look(s[:i] + s[i+1:])
		look(s[:i])
		look(s[i:])
		if i > 0 {
			look(s[:i-1] + s[i:i+1] + s[i-1:i] + s[i+1:])
		}
	}
	for _, b := range []byte(bytes) {
		look(s + string([]byte{b}))
	}
}
