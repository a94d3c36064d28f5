package journal

import (
	"strconv"
	"strings"
)

// A cursor goes through a text. Once what comes is not what must come it has failed, and what its readers answer from then on means nothing.
type cursor struct {
	rest   string
	failed bool
}

// isDone: has all come as it must, and nothing behind it?
func (c *cursor) isDone() bool {
	return !c.failed && c.rest == ""
}

// takes takes this text, if it comes.
func (c *cursor) takes(text string) bool {
	behind, found := strings.CutPrefix(c.rest, text)
	c.rest = behind
	return found
}

func (c *cursor) must(text string) {
	if !c.takes(text) {
		c.failed = true
	}
}

// digit takes one that is among these, and answers its number.
func (c *cursor) digit(among string) int {
	if c.rest == "" {
		c.failed = true
		return 0
	}
	number := strings.IndexByte(among, c.rest[0])
	if number < 0 {
		c.failed = true
		return 0
	}
	c.rest = c.rest[1:]
	return number
}

// digits takes a number of just so many digits.
func (c *cursor) digits(count int) int {
	number := 0
	for range count {
		number = 10*number + c.digit(decimalDigits)
	}
	return number
}

// upTo takes what stands ahead of that byte.
func (c *cursor) upTo(end byte) string {
	at := strings.IndexByte(c.rest, end)
	if at < 0 {
		c.failed = true
		return ""
	}
	piece := c.rest[:at]
	c.rest = c.rest[at:]
	return piece
}

// number takes a number of any length, up to a blank. It lets noughts and signs pass.
func (c *cursor) number() int {
	number, err := strconv.Atoi(c.upTo(' '))
	if err != nil {
		c.failed = true
	}
	return number
}
