package intake

import (
	"strconv"
	"strings"

	"usher/field"
)

// sizeDigits is the most digits of a size line.
const sizeDigits = 8

// chunks is how far a chunked body was read.
type chunks struct {
	at   int  // the place in what waits
	room int  // bytes that its lines may still have
	size int  // bytes of the chunk whose data come next; 0: a line comes next
	last bool // the size line of size 0 was there: trailer lines come next
	done bool
	data []byte
}

// step reads the next line, or the next chunk's data.
func (c *chunks) step(waiting *buffer, bodyMax int) int {
	if c.size > 0 {
		return c.readData(waiting)
	}
	line, number := c.readLine(waiting)
	switch {
	case number != here:
		return number
	case c.last:
		return c.readTrailer(line)
	default:
		return c.readSize(line, bodyMax)
	}
}

func (c *chunks) readLine(waiting *buffer) (string, int) {
	end, found := waiting.find(crlf, c.at, c.at+c.room)
	if !found {
		return "", missing(waiting.size()-c.at, c.room)
	}
	line := waiting.cut(c.at, end-len(crlf))
	c.room -= end - c.at
	c.at = end
	return line, here
}

func (c *chunks) readSize(line string, bodyMax int) int {
	digits, extension, _ := strings.Cut(line, ";")
	size, err := strconv.ParseUint(digits, 16, 64)
	if err != nil || len(digits) > sizeDigits || !field.Value(field.Trim(extension)) {
		return badRequest
	}
	if len(c.data)+int(size) > bodyMax {
		return bodyTooLarge
	}
	c.size, c.last = int(size), size == 0
	return here
}

// readData waits for the line end behind the data too.
func (c *chunks) readData(waiting *buffer) int {
	end := c.at + c.size
	behind := end + len(crlf)
	if waiting.size() < behind {
		return wanted
	}
	if waiting.cut(end, behind) != crlf {
		return badRequest
	}
	c.data = append(c.data, waiting.bytes[c.at:end]...)
	c.at, c.size = behind, 0
	return here
}

func (c *chunks) readTrailer(line string) int {
	if line == "" {
		c.done = true
		return here
	}
	if _, ok := readField(line); !ok {
		return badRequest
	}
	return here
}
