package journal

import (
	"strconv"
	"strings"

	"usher/api"
	"usher/field"
)

const (
	lineEnd = "\n"
	noText  = "-" // stands for an empty text, and for the request of an entry without one
	zone    = " +0000]"
	version = "HTTP/1."
)

func mayBe(e api.Entry) bool {
	return isWithin(e.Conn, 0, api.MaxConns-1) &&
		isSecond(e.At) &&
		(hasNoRequest(e) || hasRequest(e)) &&
		isWithin(e.Status, 100, 599) &&
		e.Bytes >= 0
}

func hasNoRequest(e api.Entry) bool {
	return e.Method == "" && e.Target == "" && e.Minor == 0
}

func hasRequest(e api.Entry) bool {
	return field.Token(e.Method) && isTarget(e.Target) && isWithin(e.Minor, 0, 1)
}

func isTarget(s string) bool {
	for i := range len(s) {
		if !isGraphic(s[i]) {
			return false
		}
	}
	return strings.HasPrefix(s, "/")
}

// lineOf writes an entry that may be. What somebody has sent stands in it escaped, so that the blanks and the quotes are those of the line itself.
func lineOf(e api.Entry) string {
	return strings.Join([]string{
		strconv.Itoa(e.Conn),
		"-",
		escape(e.User),
		"[" + momentOf(dateOf(e.At)) + zone,
		quoted(requestOf(e)),
		strconv.Itoa(e.Status),
		strconv.Itoa(e.Bytes),
		quoted(escape(e.Referer)),
		quoted(escape(e.Agent)),
	}, " ")
}

func quoted(text string) string { return `"` + text + `"` }

func momentOf(d api.Date) string {
	return digitsOf(d.Day, 2) + "/" + months[d.Month-1] + "/" + digitsOf(d.Year, 4) + ":" + timeOf(d)
}

func requestOf(e api.Entry) string {
	if hasNoRequest(e) {
		return noText
	}
	return e.Method + " " + escape(e.Target) + " " + version + strconv.Itoa(e.Minor)
}

// entry reads all that lineOf writes; of what it does not write, some passes here too.
func (c *cursor) entry() api.Entry {
	var e api.Entry
	e.Conn = c.number()
	c.must(" - ")
	e.User = c.text(' ')
	c.must(" [")
	e.At = c.moment()
	c.must(zone + ` "`)
	c.request(&e)
	c.must(`" `)
	e.Status = c.number()
	c.must(" ")
	e.Bytes = c.number()
	c.must(` "`)
	e.Referer = c.text('"')
	c.must(`" "`)
	e.Agent = c.text('"')
	c.must(`"`)
	return e
}

func (c *cursor) moment() int {
	var d api.Date
	d.Day = c.digits(2)
	c.must("/")
	d.Month = c.month()
	c.must("/")
	d.Year = c.digits(4)
	c.must(":")
	c.time(&d)
	if !isMoment(d) {
		c.failed = true
		return 0
	}
	return secondOf(d)
}

// request looks at the quote behind it, as a method may be what stands for no request.
func (c *cursor) request(e *api.Entry) {
	if strings.HasPrefix(c.rest, noText+`"`) {
		c.must(noText)
		return
	}
	e.Method = c.upTo(' ')
	c.must(" ")
	e.Target = c.text(' ')
	c.must(" " + version)
	e.Minor = c.digits(1)
}
