package record

import "usher/api"

const (
	groupBits = 7
	maxGroups = 9 // as many as the 63 bits of an int have
)

// reader reads the fields of a record. Once it has failed there is nothing left to read, so that whoever walks need not ask behind every field.
type reader struct {
	rest   []byte
	failed bool
}

func (r *reader) fail() {
	r.rest, r.failed = nil, true
}

// isDone: was all of it read, and nothing more?
func (r *reader) isDone() bool {
	return !r.failed && len(r.rest) == 0
}

func (r *reader) kind(place *int) {
	if first := r.take(1); len(first) > 0 {
		*place = int(first[0])
	}
}

func (r *reader) text(place *string) {
	*place = string(r.piece())
}

// list takes no more texts than a record may have, so that no number makes it ask for memory that the bytes do not bear out.
func (r *reader) list(place *[]string) {
	var count int
	r.number(&count)
	if count > api.MaxScopes {
		r.fail()
		return
	}
	texts := make([]string, count)
	for i := range texts {
		r.text(&texts[i])
	}
	*place = texts
}

func (r *reader) number(place *int) {
	n, size := headNumber(r.rest)
	if size == 0 {
		r.fail()
		return
	}
	r.rest = r.rest[size:]
	*place = n
}

// piece is the bytes ahead of which their number stands. It shares them with what is read.
func (r *reader) piece() []byte {
	var size int
	r.number(&size)
	return r.take(size)
}

func (r *reader) take(size int) []byte {
	if size > len(r.rest) {
		r.fail()
		return nil
	}
	taken := r.rest[:size]
	r.rest = r.rest[size:]
	return taken
}

// headNumber is the number at the head of p and how many bytes it takes: 0 and 0, if none stands there that an int can hold, in the one way in which it is written.
func headNumber(p []byte) (n, size int) {
	for i := range min(len(p), maxGroups) {
		n |= int(p[i]%moreGroups) << (groupBits * i)
		switch {
		case p[i] == 0 && i > 0: // a last group too many: the number is written shorter
			return 0, 0
		case p[i] < moreGroups:
			return n, i + 1
		}
	}
	return 0, 0
}
