package journal_test

import (
	"math"
	"math/rand"
	"net/http"
	"testing"

	"usher/api"
	"usher/journal"
)

// mustBeDate holds both ways between a second and its date against the library's calendar.
func mustBeDate(t *testing.T, second int) {
	t.Helper()
	want := dateAt(second)
	if got, err := journal.Civil(second); got != want || err != nil {
		t.Fatalf("P21.1: Civil(%d) = %+v, %v, want %+v", second, got, err, want)
	}
	if got, err := journal.Seconds(want); got != second || err != nil {
		t.Fatalf("P21.1: Seconds(%+v) = %d, %v, want %d", want, got, err, second)
	}
}

func mustBeNone(t *testing.T, d api.Date) {
	t.Helper()
	if got, err := journal.Seconds(d); got != 0 || err != api.ErrArg {
		t.Errorf("P21.1: Seconds(%+v) = %d, %v, want ErrArg", d, got, err)
	}
}

func TestEveryDayHasItsDate(t *testing.T) {
	for day := range lastDay + 1 {
		mustBeDate(t, day*daySeconds)
		mustBeDate(t, day*daySeconds+daySeconds-1)
	}
}

func TestEverySecondOfADay(t *testing.T) {
	for _, day := range []int{0, 11016, lastDay} { // the second one is February 29th, 2000
		for second := range daySeconds {
			mustBeDate(t, day*daySeconds+second)
		}
	}
}

func TestWhatIsNoSecond(t *testing.T) {
	for _, n := range noSeconds {
		if got, err := journal.Civil(n); got != (api.Date{}) || err != api.ErrArg {
			t.Errorf("P21.1: Civil(%d) = %+v, %v, want ErrArg", n, got, err)
		}
		if got, err := journal.Fixdate(n); got != "" || err != api.ErrArg {
			t.Errorf("P21.2: Fixdate(%d) = %q, %v, want ErrArg", n, got, err)
		}
		for _, s := range []string{"", "x", fixText(0), oldText(0), unixText(0)} {
			if got, err := journal.ReadDate(s, n); got != 0 || err != api.ErrArg {
				t.Errorf("P21.3: ReadDate(%q, %d) = %d, %v, want ErrArg", s, n, got, err)
			}
		}
		if got, err := journal.Entries(n, "x", nil); len(got) != 0 || err != api.ErrArg {
			t.Errorf("P21.8: Entries of the epoch %d: %v, %v, want ErrArg", n, got, err)
		}
	}
}

// TestLastDaysOfMonths asks of each day up to the 32nd of each month whether it is there, by the chapter's words alone.
func TestLastDaysOfMonths(t *testing.T) {
	lengths := []int{31, 28, 31, 30, 31, 30, 31, 31, 30, 31, 30, 31}
	weekday := 4
	for year := 1970; year <= 9999; year++ {
		lengths[1] = 28
		if year%4 == 0 && year%100 != 0 || year%400 == 0 {
			lengths[1] = 29
		}
		for month, length := range lengths {
			for day := range 33 {
				d := api.Date{Year: year, Month: month + 1, Day: day, Weekday: weekday}
				if day < 1 || day > length {
					if day < 1 || day > 28 {
						mustHaveNoWeekday(t, d)
					}
					continue
				}
				if got, err := journal.Seconds(d); err != nil || got%daySeconds != 0 {
					t.Fatalf("P21.1: Seconds(%+v) = %d, %v", d, got, err)
				}
				weekday = (weekday + 1) % 7
			}
		}
	}
}

// mustHaveNoWeekday: d is no date, whatever its weekday.
func mustHaveNoWeekday(t *testing.T, d api.Date) {
	t.Helper()
	for d.Weekday = range 7 {
		mustBeNone(t, d)
	}
}

// places are a date's seven fields.
func places(d *api.Date) []*int {
	return []*int{&d.Year, &d.Month, &d.Day, &d.Hour, &d.Minute, &d.Second, &d.Weekday}
}

// TestFieldsTurned turns each field of a date, by one and by much.
func TestFieldsTurned(t *testing.T) {
	seconds := []int{0, 1, 59, 60, 3599, 3600, 86399, 86400, 784111777, maxSeconds, maxSeconds - 1, maxSeconds - daySeconds,
		secondAt(2000, 2, 28), secondAt(2000, 2, 29), secondAt(2000, 3, 1), secondAt(2100, 2, 28), secondAt(2100, 3, 1), secondAt(2024, 2, 29), secondAt(2023, 2, 28), secondAt(1999, 12, 31), secondAt(2400, 2, 29)}
	for _, second := range seconds {
		for i := range 7 {
			d := dateAt(second)
			was := *places(&d)[i]
			for _, n := range []int{was - 1, was + 1, was - 2, was + 2, was - 7, was + 7, was + 400, -was, 0, 1, 6, 7, 12, 13, 23, 24, 28, 29, 30, 31, 32, 59, 60, 61, 1969, 1970, 9999, 10000, -1, math.MinInt, math.MaxInt, math.MaxInt / 86400, 1 << 32, 1<<32 + was} {
				*places(&d)[i] = n
				want, found := modelSeconds(d)
				if !found {
					mustBeNone(t, d)
				} else if got, err := journal.Seconds(d); got != want || err != nil {
					t.Errorf("P21.1: Seconds(%+v) = %d, %v, want %d", d, got, err, want)
				}
			}
		}
	}
}

// TestDatesBesideTheSeconds: dates that are right in themselves but have no second.
func TestDatesBesideTheSeconds(t *testing.T) {
	for _, second := range []int{-1, -daySeconds, secondAt(1969, 12, 31), secondAt(1900, 1, 1), secondAt(1, 1, 1), secondAt(0, 12, 31), secondAt(-400, 1, 1), maxSeconds + 1, maxSeconds + daySeconds, secondAt(10000, 2, 29), secondAt(12000, 1, 1)} {
		mustBeNone(t, dateAt(second))
	}
	mustBeNone(t, api.Date{})
}

func TestDatesByChance(t *testing.T) {
	random := rand.New(rand.NewSource(1))
	for range 100000 {
		mustBeDate(t, random.Intn(maxSeconds+1))
		d := api.Date{Year: 1965 + random.Intn(100), Month: random.Intn(15), Day: random.Intn(34), Hour: random.Intn(26), Minute: random.Intn(62), Second: random.Intn(62), Weekday: random.Intn(8)}
		want, found := modelSeconds(d)
		if got, err := journal.Seconds(d); got != want || (err == nil) != found || err != nil && err != api.ErrArg {
			t.Errorf("P21.1: Seconds(%+v) = %d, %v, want %d, %v", d, got, err, want, found)
		}
	}
}

func TestFixdate(t *testing.T) {
	random := rand.New(rand.NewSource(2))
	for day := 0; day <= lastDay; day += 3 {
		second := day*daySeconds + random.Intn(daySeconds)
		want := moment(second).Format(http.TimeFormat)
		if got, err := journal.Fixdate(second); got != want || err != nil || len(got) != 29 {
			t.Fatalf("P21.2: Fixdate(%d) = %q, %v, want %q", second, got, err, want)
		}
	}
	for second, want := range map[int]string{
		0:          "Thu, 01 Jan 1970 00:00:00 GMT",
		59:         "Thu, 01 Jan 1970 00:00:59 GMT",
		951782400:  "Tue, 29 Feb 2000 00:00:00 GMT",
		784111777:  "Sun, 06 Nov 1994 08:49:37 GMT",
		maxSeconds: "Fri, 31 Dec 9999 23:59:59 GMT",
	} {
		if got, err := journal.Fixdate(second); got != want || err != nil {
			t.Errorf("P21.2: Fixdate(%d) = %q, %v, want %q", second, got, err, want)
		}
	}
}
