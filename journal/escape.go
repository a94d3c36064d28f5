package journal

import "strings"

const (
	hexDigits  = "0123456789abcdef"
	escapeHead = `\x`
)

func isGraphic(b byte) bool { return b > ' ' && b < 0x7f }

func isPlain(b byte) bool { return isGraphic(b) && b != '"' && b != '\\' }

// escape writes a text so that it has neither blanks nor quotes nor ends of lines, and is never empty.
func escape(text string) string {
	if text == "" {
		return noText
	}
	var b strings.Builder
	for i := range len(text) {
		if isPlain(text[i]) && text != noText {
			b.WriteByte(text[i])
		} else {
			writeEscape(&b, text[i])
		}
	}
	return b.String()
}

func writeEscape(b *strings.Builder, plain byte) {
	b.WriteString(escapeHead)
	b.WriteByte(hexDigits[plain>>4])
	b.WriteByte(hexDigits[plain&15])
}

// text takes an escaped text, up to that byte. It lets pass what escape would have written in another way.
func (c *cursor) text(end byte) string {
	piece := cursor{rest: c.upTo(end)}
	if piece.rest == noText {
		return ""
	}
	var b strings.Builder
	for piece.rest != "" && !piece.failed {
		b.WriteByte(piece.escaped())
	}
	c.failed = c.failed || piece.failed
	return b.String()
}

// escaped takes one byte of an escaped text, which is not at its end.
func (c *cursor) escaped() byte {
	if c.takes(escapeHead) {
		return byte(16*c.digit(hexDigits) + c.digit(hexDigits))
	}
	b := c.rest[0]
	c.rest = c.rest[1:]
	return b
}
