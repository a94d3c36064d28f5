package field

// cursor is a text and a place in it. The readers embed it, and go on in the text by its methods.
type cursor struct {
	text string
	at   int
}

func (c *cursor) more() bool {
	return c.at < len(c.text)
}

func (c *cursor) rest() string {
	return c.text[c.at:]
}

// comes: is the next byte such a one?
func (c *cursor) comes(mayBe func(byte) bool) bool {
	return c.more() && mayBe(c.text[c.at])
}

// takeWhile takes the bytes that come next, as long as they are such.
func (c *cursor) takeWhile(mayBe func(byte) bool) string {
	begin := c.at
	for c.comes(mayBe) {
		c.at++
	}
	return c.text[begin:c.at]
}

// takeOne takes the next byte, if it is such a one.
func (c *cursor) takeOne(mayBe func(byte) bool) bool {
	if !c.comes(mayBe) {
		return false
	}
	c.at++
	return true
}

// take takes just this byte, if it comes next.
func (c *cursor) take(b byte) bool {
	if !c.more() || c.text[c.at] != b {
		return false
	}
	c.at++
	return true
}
