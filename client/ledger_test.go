package client_test

import (
	"strings"
	"testing"

	"usher/api"
	"usher/intake"
)

// A ledger holds P24.8 against a client: it knows what was begun, which of it has come back, and what was sent; nothing of how. The draws of its runs are unlike one another, and nobody hands a verifier in.
type ledger struct {
	beginnings []*started
	codes      []*started // those that came back with a code, in their order
}

// started is something that was begun, and what has come of it.
type started struct {
	state, verifier string
	code            string
	returned, spent bool
}

func (l *ledger) begun(t *testing.T, state, verifier, target string) {
	t.Helper()
	l.beginnings = append(l.beginnings, &started{state: letters(state), verifier: letters(verifier)})
	l.mustHide(t, target, nil)
}

// returned: only the answer to the last beginning is taken, and once.
func (l *ledger) returned(t *testing.T, uri string) {
	t.Helper()
	s := l.beginnings[len(l.beginnings)-1]
	if s.returned || !strings.Contains(uri, "state="+s.state) {
		t.Fatalf("P24.8: behind the beginning with the state %s (which came back: %v) Return(%q) is taken", s.state, s.returned, uri)
	}
	s.returned = true
	if at := strings.LastIndex(uri, "code=code"); at >= 0 {
		s.code = uri[at+len("code=") : len(uri)-len("&state="+s.state)]
		l.codes = append(l.codes, s)
	}
}

// sent: a code is sent once, with its own verifier, and no verifier otherwise.
func (l *ledger) sent(t *testing.T, q api.Request) {
	t.Helper()
	if !strings.Contains(q.Body, "grant_type=authorization_code&") {
		l.mustHide(t, told(q), nil)
		return
	}
	var of *started
	for _, s := range l.codes {
		if strings.Contains(q.Body, "&code="+s.code+"&") {
			of = s
		}
	}
	if of == nil || of.spent || !strings.Contains(q.Body, "&code_verifier="+of.verifier+"&") && !strings.HasSuffix(q.Body, "&code_verifier="+of.verifier) {
		t.Fatalf("P24.8: of the codes that came back (%+v) this is sent: %s", of, told(q))
	}
	of.spent = true
	l.mustHide(t, told(q), of)
}

// mustHide fails if a verifier stands in a text, other than that of the code for which it is sent.
func (l *ledger) mustHide(t *testing.T, text string, of *started) {
	t.Helper()
	for _, s := range l.beginnings {
		if s != of && strings.Contains(text, s.verifier) {
			t.Fatalf("P24.8: the verifier %s stands in %s", s.verifier, text)
		}
	}
}

// mustBeRead fails unless an Intake reads the request as it is.
func mustBeRead(t *testing.T, q api.Request) {
	t.Helper()
	if len(q.Body) > 1<<16 {
		return
	}
	text, err := intake.Write(q)
	if err != nil {
		t.Fatalf("Words: Write(%s): %v", told(q), err)
	}
	p, err := intake.New(1<<16, 1<<16)
	if err != nil {
		t.Fatal(err)
	}
	p.Feed(text)
	if got, n := p.Next(); !isSame(got, q) || n != 1 || p.Left() != 0 {
		t.Fatalf("Words: an Intake reads %s, %d, want %s", told(got), n, told(q))
	}
}
