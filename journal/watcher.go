package journal

import (
	"strings"

	"usher/api"
	"usher/field"
	"usher/intake"
)

// What an intake answers beside the status of a refusal.
const (
	wanted = 0 // more bytes
	whole  = 1 // here is a request
)

const headEnd = "\r\n\r\n"

// A line is a connection, as in the run: free as long as it has no intake and is not shut.
type line struct {
	in   *intake.Intake
	shut bool
}

// A watcher goes through the steps of a run once more. It reads the requests out of them as the run did, and lays each beside the answer that went out for it.
type watcher struct {
	config     api.Config
	epoch, now int
	lines      [api.MaxConns]line
	outs       []api.Out // those that were not come to yet
	entries    []api.Entry
}

func (w *watcher) watch(number int, step api.Step) {
	switch step.Kind {
	case api.StepBytes:
		w.take(number, step.Conn, step.Data)
	case api.StepTick:
		w.now += min(max(step.N, 0), api.MaxNow-w.now)
	case api.StepClose:
		if isLine(step.Conn) {
			w.lines[step.Conn] = line{}
		}
	case api.StepCrash:
		w.freeAll()
	}
}

func isLine(conn int) bool { return isWithin(conn, 0, api.MaxConns-1) }

func (w *watcher) freeAll() {
	w.lines = [api.MaxConns]line{}
}

// take hands a connection's bytes to its intake, and goes through the verdicts that they lead to.
func (w *watcher) take(number, conn int, data string) {
	if !isLine(conn) || w.lines[conn].shut {
		return
	}
	l := &w.lines[conn]
	if l.in == nil {
		l.in, _ = intake.New(w.config.HeadMax, w.config.BodyMax) // registry.Read lets no limits in that it refuses
	}
	l.in.Feed(data)
	for w.verdict(number, l) {
	}
}

// verdict lays the next verdict of an open connection beside its answer, and tells whether the step goes on behind it. Where there is no answer the power has failed.
func (w *watcher) verdict(number int, l *line) bool {
	q, verdict := l.in.Next()
	if verdict == wanted {
		return false
	}
	out, found := w.nextOut(number)
	if !found {
		w.freeAll()
		return false
	}
	e := w.entryOf(out)
	if verdict == whole {
		tell(&e, q)
	}
	w.entries = append(w.entries, e)
	if verdict != whole || q.Close {
		*l = line{shut: true}
	}
	return !l.shut
}

// nextOut takes the next answer, if it is one of that step.
func (w *watcher) nextOut(number int) (api.Out, bool) {
	if len(w.outs) == 0 || w.outs[0].Step != number {
		return api.Out{}, false
	}
	out := w.outs[0]
	w.outs = w.outs[1:]
	return out, true
}

// entryOf tells of an answer what can be told without its request.
func (w *watcher) entryOf(out api.Out) api.Entry {
	head, body, _ := strings.Cut(out.Text, headEnd)
	_, behind, _ := strings.Cut(head, " ")
	status := cursor{rest: behind}
	return api.Entry{
		Conn:   out.Conn,
		At:     min(w.epoch+w.now, api.MaxSeconds),
		Status: status.digits(3),
		Bytes:  len(body),
	}
}

// tell puts the request into the entry of its answer.
func tell(e *api.Entry, q api.Request) {
	e.Method, e.Target, e.Minor = q.Method, q.Target, q.Minor
	e.User = userOf(q)
	e.Referer, _ = field.Lookup(q.Fields, "referer")
	e.Agent, _ = field.Lookup(q.Fields, "user-agent")
}

// userOf is the name that a request shows; empty if it shows none, or several, or one that cannot be read.
func userOf(q api.Request) string {
	value, count := field.Lookup(q.Fields, "authorization")
	if count != 1 {
		return ""
	}
	user, _, _ := field.Basic(value)
	return user
}
