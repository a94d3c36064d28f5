package journal_test

import (
	"math/rand"
	"slices"
	"strings"
	"testing"

	"usher/api"
	"usher/journal"
)

// mustBeLog holds Lines and ReadLines against a log.
func mustBeLog(t *testing.T, l []api.Entry, want string) {
	t.Helper()
	if got, err := journal.Lines(l); got != want || err != nil {
		t.Errorf("P21.6: Lines(%+v) = %q, %v, want %q", l, got, err, want)
	}
	if got, err := journal.ReadLines(want); !slices.Equal(got, l) || err != nil {
		t.Errorf("P21.6: ReadLines(%q) = %+v, %v, want %+v", want, got, err, l)
	}
}

func mustBeNoLog(t *testing.T, s string) {
	t.Helper()
	if got, err := journal.ReadLines(s); len(got) != 0 || err != api.ErrText {
		t.Errorf("P21.6: ReadLines(%q) = %+v, %v, want ErrText", s, got, err)
	}
}

func TestLogs(t *testing.T) {
	mustBeLog(t, nil, "")
	mustBeLog(t, []api.Entry{}, "")
	mustBeLog(t, []api.Entry{first()}, firstLine+"\n")
	mustBeLog(t, []api.Entry{bare()}, bareLine+"\n")
	mustBeLog(t, []api.Entry{first(), bare(), first()}, firstLine+"\n"+bareLine+"\n"+firstLine+"\n")
	mustBeLog(t, []api.Entry{bare(), bare()}, bareLine+"\n"+bareLine+"\n")
}

func TestLogsByChance(t *testing.T) {
	random := rand.New(rand.NewSource(7))
	for range 2000 {
		var l []api.Entry
		var want strings.Builder
		for range random.Intn(12) {
			e := anEntry(random)
			l = append(l, e)
			want.WriteString(modelLine(e) + "\n")
		}
		log := want.String()
		mustBeLog(t, l, log)
		if n := strings.Count(log, "\n"); n != len(l) {
			t.Errorf("P21.7: a log of %d entries has %d lines", len(l), n)
		}
	}
}

func TestWhatIsNoLog(t *testing.T) {
	for _, s := range []string{
		firstLine, "\n", "\n\n", firstLine + "\n\n", "\n" + firstLine + "\n", firstLine + "\n\n" + bareLine + "\n", firstLine + "\n" + bareLine, firstLine + bareLine + "\n", firstLine + "\r\n", firstLine + "\n\r", firstLine + "\n ", " " + firstLine + "\n", firstLine + " \n", firstLine + "\x00", "x\n", firstLine + "\nx\n", "x\n" + firstLine + "\n", firstLine + "\n" + firstLine[:20] + "\n", firstLine[:30] + "\n" + firstLine[30:] + "\n", " ", "-", "-\n",
	} {
		mustBeNoLog(t, s)
	}
	log := firstLine + "\n" + strings.Replace(bareLine, "15", "7", 1) + "\n" + firstLine + "\n"
	for i := range len(log) {
		if i > 0 && log[i-1] == '\n' {
			continue
		}
		if i > 0 {
			mustBeNoLog(t, log[:i])
			mustBeNoLog(t, log[i:])
		}
		mustBeNoLog(t, log[:i]+"\n"+log[i:])
	}
}

// TestOneWrongLineOfMany: one that is no line, at any place, is enough.
func TestOneWrongLineOfMany(t *testing.T) {
	for place := range 30 {
		var l []api.Entry
		var log strings.Builder
		for i := range 30 {
			e, line := first(), firstLine
			if i == place {
				e.Status, line = 600, strings.Replace(firstLine, "200", "600", 1)
			}
			l = append(l, e)
			log.WriteString(line + "\n")
		}
		mustBeNoLog(t, log.String())
		if got, err := journal.Lines(l); got != "" || err != api.ErrArg {
			t.Errorf("P21.6: Lines with a wrong entry at %d = %q, %v", place, got, err)
		}
	}
}

// TestLongLogs: a log has no limit.
func TestLongLogs(t *testing.T) {
	l := slices.Repeat([]api.Entry{first(), bare()}, 50000)
	mustBeLog(t, l, strings.Repeat(firstLine+"\n"+bareLine+"\n", 50000))
	mustBeNoLog(t, strings.Repeat("\n", 3000000))
	mustBeNoLog(t, strings.Repeat(firstLine+"\n", 50000)+firstLine)
}
