package field

// mediaReader reads the value of a Content-Type field.
type mediaReader struct {
	cursor
	table
}

// kind reads the two tokens with the slash between.
func (r *mediaReader) kind() bool {
	return r.token() && r.take('/') && r.token()
}

// parameters reads all that stands behind the kind, to the text's end.
func (r *mediaReader) parameters() bool {
	for r.more() {
		r.takeWhile(isWhite)
		if !r.take(';') {
			return false
		}
		r.takeWhile(isWhite)
		// A semicolon may stand without a parameter: then the next one or the text's end has to follow.
		if r.comes(r.isTokenByte) && !r.parameter() {
			return false
		}
	}
	return true
}

func (r *mediaReader) parameter() bool {
	if !r.token() || !r.take('=') {
		return false
	}
	if r.take('"') {
		return r.quotedRest()
	}
	return r.token()
}

func (r *mediaReader) token() bool {
	return r.takeWhile(r.isTokenByte) != ""
}

// quotedRest reads what stands behind the first quote, the last one too.
func (r *mediaReader) quotedRest() bool {
	for !r.take('"') {
		if !r.takeOne(isInner) && !r.escaped() {
			return false
		}
	}
	return true
}

func (r *mediaReader) escaped() bool {
	return r.take('\\') && r.takeOne(isValueByte)
}

func isInner(b byte) bool {
	return isValueByte(b) && b != '"' && b != '\\'
}
