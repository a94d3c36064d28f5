package world_test

import (
	"fmt"
	"strings"

	"usher/api"
)

// How requests come when nobody writes them neatly.

// chunked is a body in chunks.
func (p *troupe) chunked(body string) string {
	var b strings.Builder
	for body != "" {
		n := min(len(body), 1+p.random.Intn(60))
		fmt.Fprintf(&b, "%x%s\r\n%s\r\n", n, oneOf(p.random, "", "", ";a=b", ";"), body[:n])
		body = body[n:]
	}
	return b.String() + oneOf(p.random, "0", "000") + "\r\n" + oneOf(p.random, "", "", "X-Trailer: y\r\n") + "\r\n"
}

// dressed is a request in one of the ways in which it may be written.
func (p *troupe) dressed(a ask) string {
	version, fields := "1.1", append([]string{}, a.fields...)
	body := a.body
	host := oneOf(p.random, "Host: x", "host:x", "HOST:\t usher.example:80 ")
	if p.random.Intn(16) == 0 {
		version, host = "1.0", "X: y"
		if p.random.Intn(3) > 0 {
			fields = append(fields, oneOf(p.random, "Connection: keep-alive", "connection: foo , Keep-Alive"))
		}
	}
	fields = append(fields, host)
	if p.random.Intn(24) == 0 {
		fields = append(fields, oneOf(p.random, "Connection: close", "CONNECTION: x,CLOSE", "Connection: keep-alive"))
	}
	p.random.Shuffle(len(fields), func(i, j int) { fields[i], fields[j] = fields[j], fields[i] })
	switch {
	case body == "" && p.random.Intn(2) == 0:
	case version == "1.1" && p.random.Intn(4) == 0:
		fields = append(fields, "Transfer-Encoding: "+oneOf(p.random, "chunked", "Chunked"))
		body = p.chunked(body)
	default:
		fields = append(fields, fmt.Sprintf("Content-Length: %0*d", p.random.Intn(6), len(body)))
	}
	target := a.target
	if p.random.Intn(12) == 0 {
		target = oneOf(p.random, "http://", "HTTPS://") + "usher.example" + strings.TrimSuffix(target, "/")
	}
	head := oneOf(p.random, "", "", "", "", "\r\n") + a.method + " " + target + " HTTP/" + version + "\r\n"
	return head + strings.Join(fields, "\r\n") + "\r\n\r\n" + body
}

// spoiled is bytes with a piece of them taken out, doubled or changed.
func (p *troupe) spoiled(raw string) string {
	from, to := p.random.Intn(len(raw)+1), p.random.Intn(len(raw)+1)
	from, to = min(from, to), min(max(from, to), min(from, to)+p.random.Intn(8))
	switch p.random.Intn(4) {
	case 0:
		return raw[:from] + raw[to:]
	case 1:
		return raw[:to] + raw[from:]
	case 2:
		return raw[:from] + oneOf(p.random, "\r\n", "\n", "\x00", "\xff", " ", ":", "\r\nExpect: 100-continue", "\r\nContent-Length: 3", "\r\nTransfer-Encoding: gzip", strings.Repeat("x", 500)) + raw[from:]
	}
	return strings.Replace(raw, "HTTP/1.1", oneOf(p.random, "HTTP/2.0", "HTTP/1.2", "http/1.1", "HTTP/1.1 "), 1)
}

// conn is one that is open or free, most of the time.
func (p *troupe) conn() int {
	for range 6 {
		if n := p.random.Intn(5); !p.model.lines[n].shut {
			return n
		}
	}
	n := p.random.Intn(5)
	p.do(hangUp(n), nil)
	return n
}

// sendOddly lets a request come in pieces, with others, spoiled, or only half of it.
func (p *troupe) sendOddly(w *browser, a ask) {
	p.t.Helper()
	conn, raw := p.conn(), p.dressed(a)
	for p.random.Intn(8) == 0 {
		raw += p.dressed(oneOf(p.random, asking("GET", "/"), asking("HEAD", "/login"), p.drawnCall(), p.drawnCall()))
	}
	if p.random.Intn(20) == 0 {
		raw = p.spoiled(raw)
	}
	pieces := oneOf(p.random, 1, 1, 1, 2, 3, 9)
	for pieces > 1 && raw != "" {
		n := p.random.Intn(len(raw) + 1)
		p.do(bytesOn(conn, raw[:n]), w)
		raw = raw[n:]
		pieces--
		if p.random.Intn(40) == 0 {
			p.do(oneOf(p.random, hangUp(conn), crash(0), tick(1), bytesOn(conn+1, "GET / HTTP/1.1\r\n"), api.Step{Kind: oneOf(p.random, 0, 7, -1), Conn: conn, Data: "x", N: 5}), nil)
		}
	}
	p.do(bytesOn(oneOf(p.random, conn, conn, conn, conn, conn, conn, conn, conn, conn, conn, conn, conn, conn, conn, conn, 16, -1), raw), w)
}
