package journal_test

import (
	"strings"
	"testing"

	"usher/api"
	"usher/journal"
)

// The rows of the chapter's examples.

func TestExamplesOfTheCalendar(t *testing.T) {
	for second, want := range map[int]api.Date{
		0:            {Year: 1970, Month: 1, Day: 1, Weekday: 4},
		784111777:    {Year: 1994, Month: 11, Day: 6, Hour: 8, Minute: 49, Second: 37},
		951782400:    {Year: 2000, Month: 2, Day: 29, Weekday: 2},
		253402300799: {Year: 9999, Month: 12, Day: 31, Hour: 23, Minute: 59, Second: 59, Weekday: 5},
	} {
		if got, err := journal.Civil(second); got != want || err != nil {
			t.Errorf("P21.1: Civil(%d) = %+v, %v, want %+v", second, got, err, want)
		}
		if got, err := journal.Seconds(want); got != second || err != nil {
			t.Errorf("P21.1: Seconds(%+v) = %d, %v, want %d", want, got, err, second)
		}
	}
	for _, n := range []int{-1, 253402300800} {
		if got, err := journal.Civil(n); got != (api.Date{}) || err != api.ErrArg {
			t.Errorf("P21.1: Civil(%d) = %+v, %v", n, got, err)
		}
	}
	mustBeNone(t, api.Date{Year: 2000, Month: 2, Day: 29, Weekday: 3})
	for weekday := range 7 {
		mustBeNone(t, api.Date{Year: 1900, Month: 1, Day: 1, Weekday: weekday})
	}
	if got, err := journal.Fixdate(784111777); got != "Sun, 06 Nov 1994 08:49:37 GMT" || err != nil {
		t.Errorf("P21.2: Fixdate(784111777) = %q, %v", got, err)
	}
}

func TestExamplesOfReadDate(t *testing.T) {
	for _, s := range []string{"Sun, 06 Nov 1994 08:49:37 GMT", "Sunday, 06-Nov-94 08:49:37 GMT", "Sun Nov  6 08:49:37 1994"} {
		mustBeSecond(t, s, 784111777, 784111777)
	}
	mustBeSecond(t, "Sunday, 06-Nov-94 08:49:37 GMT", 0, 784111777)
	mustBeNoDate(t, "Thursday, 01-Jan-70 00:00:00 GMT", 1893456000)
	mustBeSecond(t, "Sun Nov 06 08:49:37 1994", 0, 784111777)
	for _, s := range []string{"Mon, 06 Nov 1994 08:49:37 GMT", "Sun, 6 Nov 1994 08:49:37 GMT", ""} {
		mustBeNoDate(t, s, 0)
	}
}

func TestExamplesOfLines(t *testing.T) {
	mustBeLine(t, first(), firstLine)
	mustBeLine(t, bare(), bareLine)
	for _, change := range []func(*api.Entry){
		func(e *api.Entry) { e.Conn = 16 },
		func(e *api.Entry) { e.Status = 99 },
		func(e *api.Entry) { e.Target = "" },
		func(e *api.Entry) { e.Bytes = -1 },
	} {
		e := first()
		change(&e)
		mustNotBe(t, e)
	}
	mustBeNoLine(t, strings.Replace(firstLine, "ann", `\x41nn`, 1))
	mustBeNoLine(t, strings.Replace(firstLine, " ", "  ", 1))
	mustBeNoLine(t, firstLine+"\n")
	mustBeNoLine(t, strings.Replace(firstLine, " 5 ", " 007 ", 1))
	mustBeLog(t, nil, "")
	mustBeNoLog(t, firstLine)
}
