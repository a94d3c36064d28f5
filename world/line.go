package world

import (
	"usher/api"
	"usher/intake"
	"usher/page"
	"usher/reply"
)

// A line is a connection. It is free as long as it has no intake and is not shut; an open one has an intake.
type line struct {
	in   *intake.Intake
	shut bool
}

// What an intake answers beside the status of a refusal.
const (
	wanted = 0 // more bytes
	whole  = 1 // here is a request
)

// isLine: is there a connection of that number?
func isLine(conn int) bool { return conn >= 0 && conn < api.MaxConns }

// free lets go what a connection was and what it has sent.
func (m *machine) free(conn int) {
	if isLine(conn) {
		m.lines[conn] = line{}
	}
}

// take hands a connection's bytes to its intake, and serves all requests that are whole by them.
func (m *machine) take(conn int, data string, say func(text string)) {
	if !isLine(conn) || m.lines[conn].shut {
		return
	}
	l := &m.lines[conn]
	if l.in == nil {
		l.in, _ = intake.New(m.config.HeadMax, m.config.BodyMax) // registry.Read lets no limits in that it refuses
	}
	l.in.Feed(data)
	for m.serveNext(l, say) {
	}
}

// serveNext serves what comes next on an open connection, and answers whether the step goes on behind it.
func (m *machine) serveNext(l *line, say func(text string)) bool {
	q, number := l.in.Next()
	switch number {
	case wanted:
		return false
	case whole:
		return m.serve(l, q, say)
	}
	l.answer(refusal(number), false, say)
	return false
}

// serve lets the answer to a request out, and answers whether the step goes on behind it. The server's one error is that the power has failed: nothing goes out then.
func (m *machine) serve(l *line, q api.Request, say func(text string)) bool {
	r, err := m.server.Serve(m.now, q)
	if err != nil {
		m.bootAgain()
		return false
	}
	l.answer(r, q.Method == "HEAD", say)
	return !l.shut
}

// answer lets an answer out, and shuts the connection if the answer says so. reply.Render takes all that the server and refusal answer.
func (l *line) answer(r api.Reply, bare bool, say func(text string)) {
	text, _ := reply.Render(r, bare)
	say(text)
	if r.Close {
		*l = line{shut: true}
	}
}

// refusal is the answer to bytes that an intake refuses with that status: an error page as the server has them.
func refusal(status int) api.Reply {
	body, _ := page.Page(api.Page{Title: "Error", Lines: []string{reply.Reason(status)}}) // it has no input that could be refused
	return api.Reply{
		Status: status,
		Fields: []api.Pair{
			{Name: "Content-Type", Value: "text/html; charset=utf-8"},
			{Name: "Cache-Control", Value: "no-store"},
			{Name: "X-Frame-Options", Value: "DENY"},
			{Name: "Referrer-Policy", Value: "no-referrer"},
		},
		Body:  body,
		Close: true,
	}
}
