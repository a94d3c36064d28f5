package intake

import "usher/api"

// What a step of reading answers: wanted and here as Next does, or a refusal.
const (
	wanted             = 0
	here               = 1
	badRequest         = 400
	bodyTooLarge       = 413
	expectationFailed  = 417
	headTooLarge       = 431
	notImplemented     = 501
	versionUnsupported = 505
)

// The states: what of a request is read next.
const (
	inHead = iota
	inBody
	inChunks
)

const headEnd = crlf + crlf

// read goes on where it stood: a request whose bytes are all there goes through its states at once.
func (p *Intake) read() int {
	switch p.state {
	case inHead:
		if number := p.readHead(); number != here {
			return number
		}
		fallthrough
	case inBody:
		if p.state == inBody {
			return p.readBody()
		}
		fallthrough
	default:
		return p.readChunks()
	}
}

// readHead judges the head once it is there, and goes over to the state of its body.
func (p *Intake) readHead() int {
	end, found := p.waiting.find(headEnd, 0, p.headMax)
	if !found {
		return missing(p.waiting.size(), p.headMax)
	}
	h, number := judge(p.waiting.cut(0, end-len(headEnd)), p.bodyMax)
	if number != here {
		return number
	}
	p.request = h.request
	p.begin, p.end = end, end+h.size(p.bodyMax)
	p.state = inBody
	if h.chunked() {
		p.chunks = chunks{at: end, room: p.headMax}
		p.state = inChunks
	}
	return here
}

func (p *Intake) readBody() int {
	if p.waiting.size() < p.end {
		return wanted
	}
	p.request.Body = p.waiting.cut(p.begin, p.end)
	return here
}

func (p *Intake) readChunks() int {
	for !p.chunks.done {
		if number := p.chunks.step(&p.waiting, p.bodyMax); number != here {
			return number
		}
	}
	p.request.Body = string(p.chunks.data)
	p.end = p.chunks.at
	return here
}

// missing tells what it means that an end is not there, where it may come within so many bytes.
func missing(size, limit int) int {
	if size < limit {
		return wanted
	}
	return headTooLarge
}

// handOut gives the request away and keeps nothing of it.
func (p *Intake) handOut() api.Request {
	q := p.request
	p.waiting.drop(p.end)
	p.state, p.request, p.chunks = inHead, api.Request{}, chunks{}
	if q.Close {
		p.shutWith(wanted)
	}
	return q
}

// shutWith lets go what waits and what was read of it.
func (p *Intake) shutWith(number int) {
	*p = Intake{shut: true, always: number}
}
