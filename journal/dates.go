package journal

import (
	"strconv"
	"strings"

	"usher/api"
)

const decimalDigits = "0123456789"

// yearsAhead is how far ahead of now a year of two digits may lie.
const yearsAhead = 50

// digitsOf writes a number with noughts ahead, so that it has so many digits.
func digitsOf(number, count int) string {
	text := strconv.Itoa(number)
	return strings.Repeat("0", count-len(text)) + text
}

func timeOf(d api.Date) string {
	return digitsOf(d.Hour, 2) + ":" + digitsOf(d.Minute, 2) + ":" + digitsOf(d.Second, 2)
}

func fixdateOf(d api.Date) string {
	return weekdays[d.Weekday] + ", " + digitsOf(d.Day, 2) + " " + months[d.Month-1] + " " + digitsOf(d.Year, 4) + " " + timeOf(d) + " GMT"
}

// A dateCursor reads a date. What it reads has the form of one: whether there is such a day is not its care.
type dateCursor struct {
	cursor
	latest int // the last year that two digits may mean
}

// readForms tries the three forms in their order. No text has two of them.
func readForms(s string, yearNow int) (api.Date, bool) {
	c := &dateCursor{latest: min(yearNow+yearsAhead, lastYear)}
	for _, read := range []func() api.Date{c.fixdate, c.rfc850, c.asctime} {
		c.cursor = cursor{rest: s}
		if d := read(); c.isDone() {
			return d, true
		}
	}
	return api.Date{}, false
}

func (c *dateCursor) fixdate() api.Date {
	var d api.Date
	d.Weekday = c.weekday()
	c.must(", ")
	d.Day = c.digits(2)
	c.must(" ")
	d.Month = c.month()
	c.must(" ")
	d.Year = c.digits(4)
	c.must(" ")
	c.time(&d)
	c.must(" GMT")
	return d
}

func (c *dateCursor) rfc850() api.Date {
	var d api.Date
	d.Weekday = c.weekdayInFull()
	c.must(", ")
	d.Day = c.digits(2)
	c.must("-")
	d.Month = c.month()
	c.must("-")
	d.Year = latestLike(c.digits(2), c.latest)
	c.must(" ")
	c.time(&d)
	c.must(" GMT")
	return d
}

func (c *dateCursor) asctime() api.Date {
	var d api.Date
	d.Weekday = c.weekday()
	c.must(" ")
	d.Month = c.month()
	c.must(" ")
	d.Day = c.paddedDay()
	c.must(" ")
	c.time(&d)
	c.must(" ")
	d.Year = c.digits(4)
	return d
}

// latestLike is the greatest year up to latest with these last two digits.
func latestLike(lastTwo, latest int) int {
	year := latest - latest%100 + lastTwo
	if year > latest {
		year -= 100
	}
	return year
}

// paddedDay takes two digits, or a blank in the place of the first.
func (c *cursor) paddedDay() int {
	if c.takes(" ") {
		return c.digits(1)
	}
	return c.digits(2)
}

func (c *cursor) time(d *api.Date) {
	d.Hour = c.digits(2)
	c.must(":")
	d.Minute = c.digits(2)
	c.must(":")
	d.Second = c.digits(2)
}

func (c *cursor) weekday() int {
	return c.name(len(weekdays), func(i int) string { return weekdays[i] })
}

func (c *cursor) weekdayInFull() int {
	return c.name(len(weekdaysInFull), func(i int) string { return weekdaysInFull[i] })
}

func (c *cursor) month() int {
	return 1 + c.name(len(months), func(i int) string { return months[i] })
}

// name takes one of so many names, and answers its number. No name begins with another one of its table.
func (c *cursor) name(count int, nameOf func(int) string) int {
	for i := range count {
		if c.takes(nameOf(i)) {
			return i
		}
	}
	c.failed = true
	return 0
}
