package journal_test

import (
	"math/rand"
	"strings"
	"testing"
	"time"

	"usher/api"
)

// TestFormsAreReadBack reads a second out of each of its texts, with a now near to it.
func TestFormsAreReadBack(t *testing.T) {
	random := rand.New(rand.NewSource(3))
	for range 50000 {
		second := oneOf(random, random.Intn(maxSeconds+1), random.Intn(3000000000))
		for _, s := range texts(second) {
			mustBeSecond(t, s, second, second)
		}
	}
	for _, second := range []int{0, 1, daySeconds - 1, secondAt(2000, 2, 29), secondAt(1999, 12, 31), maxSeconds} {
		for _, s := range texts(second) {
			mustBeSecond(t, s, second, second)
		}
	}
}

// TestNowCountsForTwoDigitsAlone reads the other forms with any now.
func TestNowCountsForTwoDigitsAlone(t *testing.T) {
	for _, now := range []int{0, 1, 784111777, secondAt(2045, 1, 1), secondAt(9999, 1, 1), maxSeconds} {
		for _, second := range []int{0, 784111777, secondAt(2100, 3, 1), maxSeconds} {
			mustBeSecond(t, fixText(second), now, second)
			mustBeSecond(t, unixText(second), now, second)
		}
	}
}

// TestEveryChangeOfADate holds texts that are one change away from a date against the model.
func TestEveryChangeOfADate(t *testing.T) {
	for _, second := range []int{784111777, 0, maxSeconds, secondAt(2000, 2, 29) + 43199} {
		for _, s := range texts(second) {
			changed(s, everyByte(), func(s string) { mustBeAsModel(t, s, second) })
		}
	}
}

func TestChangesOfDatesByChance(t *testing.T) {
	random := rand.New(rand.NewSource(4))
	pieces := []string{"Sun", "Sunday", "Mon", "Thursday", "Nov", "Jan", "Feb", ", ", " ", "  ", "-", ":", "06", " 6", "6", "29", "30", "31", "32", "00", "24", "59", "60", "61", "1994", "94", "1969", "1970", "9999", "0000", "GMT", " GMT", "gmt", "UTC", "+", "\n", "\x00"}
	for range 200000 {
		s := oneOf(random, texts(oneOf(random, 784111777, random.Intn(3000000000)))...)
		for range 1 + random.Intn(2) {
			from := random.Intn(len(s) + 1)
			to := min(len(s), from+random.Intn(5))
			s = s[:from] + oneOf(random, pieces...) + s[to:]
		}
		mustBeAsModel(t, s, random.Intn(3000000000))
	}
}

// TestWhatIsNoDate names the faults that the chapter names, in each of the forms.
func TestWhatIsNoDate(t *testing.T) {
	forms := []string{"Sun, 06 Nov 1994 08:49:37 GMT", "Sunday, 06-Nov-94 08:49:37 GMT", "Sun Nov  6 08:49:37 1994", "Sun Nov 06 08:49:37 1994"}
	for _, s := range forms {
		mustBeSecond(t, s, 784111777, 784111777)
		for _, change := range [][2]string{
			{"08:49:37", "24:00:00"}, {"08:49:37", "23:59:60"}, {"08:49:37", "08:60:37"}, {"08:49:37", "8:49:37"}, {"08:49:37", "008:49:37"}, {"08:49:37", "08:49"}, {"08:49:37", "08:49:37.0"}, {"08:49:37", "08.49.37"}, {"08:49:37", "+8:49:37"}, {"08:49:37", "-8:49:37"}, {"08:49:37", " 8:49:37"},
			{"Nov", "Apr"}, {"Nov", "nov"}, {"Nov", "NOV"}, {"Nov", "November"}, {"Nov", "11"}, {"Nov", "No"}, {"Nov", ""}, {"Nov", "Now"},
			{"Sun", "Mon"}, {"Sun", "Sat"}, {"Sun", "sun"}, {"Sun", "SUN"}, {"Sun", "So"}, {"Sun", ""}, {"day", "Day"}, {"day", "DAY"}, {"day", "da"},
			{" GMT", ""}, {" GMT", " gmt"}, {" GMT", " UTC"}, {" GMT", "GMT"}, {" GMT", "  GMT"}, {" GMT", " GMT "}, {" GMT", " +0000"}, {" GMT", " GMT+0"}, {",", ""}, {", ", ","}, {", ", ",  "}, {"-", " "}, {"-Nov-94", "-Nov-1994"}, {"-94", "-994"}, {"-94", "-4"}, {"1994", "94"}, {"1994", "01994"}, {"1994", "994"}, {"1994", "11994"}, {"1994", "1995"}, {"1994", "0000"}, {"1994", "1894"},
			{"06", "31"}, {"06", "00"}, {"06", "0"}, {"06", "6"}, {"06", "006"}, {"06", "07"}, {" 6", "6"}, {" 6", "  6"}, {" 6", "+6"}, {" 6", " 0"}, {" 6", "\t6"}, {" 6", " "},
		} {
			if strings.Contains(s, change[0]) {
				mustBeNoDate(t, strings.Replace(s, change[0], change[1], 1), 784111777)
			}
		}
		for b := range 256 {
			mustBeNoDate(t, s+string([]byte{byte(b)}), 784111777)
			mustBeNoDate(t, string([]byte{byte(b)})+s, 784111777)
		}
		mustBeNoDate(t, s+s, 784111777)
		mustBeNoDate(t, strings.ToLower(s), 784111777)
		mustBeNoDate(t, strings.ToUpper(s), 784111777)
	}
	for _, s := range []string{"", " ", "0", "784111777", "1994-11-06T08:49:37Z", "Sun, 06-Nov-94 08:49:37 GMT", "Sunday, 06 Nov 1994 08:49:37 GMT", "Sunday Nov  6 08:49:37 1994", "Sun, 06 Nov 1994 08:49:37 GMT\x00", "Sun Nov  6 08:49:37 1994\n", "Sun Nov  6 08:49:37 1994 GMT", "Sun, Nov  6 08:49:37 1994"} {
		mustBeNoDate(t, s, 784111777)
	}
}

// TestDaysThatAMonthHasNot tries each two digits of a day with each weekday, in each form.
func TestDaysThatAMonthHasNot(t *testing.T) {
	for _, year := range []string{"1999", "2000", "2024", "2025", "2100"} {
		for _, month := range names {
			for day := range 100 {
				two := string([]byte{byte('0' + day/10), byte('0' + day%10)})
				for n, weekday := range days {
					now := secondAt(number(year), 1, 1)
					mustBeAsModel(t, weekday+", "+two+" "+month+" "+year+" 00:00:00 GMT", now)
					mustBeAsModel(t, time.Weekday(n).String()+", "+two+"-"+month+"-"+year[2:]+" 23:59:59 GMT", now)
					mustBeAsModel(t, weekday+" "+month+" "+two+" 12:00:00 "+year, now)
					mustBeAsModel(t, weekday+" "+month+" "+strings.Replace(two, "0", " ", 1)+" 12:00:00 "+year, now)
				}
			}
		}
	}
}

// TestDatesAheadOf1970: they are right in themselves, but there is no such second.
func TestDatesAheadOf1970(t *testing.T) {
	for _, second := range []int{-1, -daySeconds, secondAt(1950, 6, 1), secondAt(1900, 1, 1), secondAt(1600, 2, 29), secondAt(0, 1, 1)} {
		for _, s := range texts(second) {
			if !strings.Contains(s, "-") {
				mustBeNoDate(t, s, 0)
			}
		}
	}
	for year := 21; year < 70; year++ { // up to 2020, so 1921 to 1969 are the greatest
		mustBeNoDate(t, oldText(secondAt(1900+year, 1, 1)), 0)
		mustBeNoDate(t, oldText(secondAt(1900+year, 12, 31)), 0)
	}
}

// TestCenturies takes each two digits of a year, with a now at both ends of many years.
func TestCenturies(t *testing.T) {
	for year := 1970; year <= 9999; year++ {
		if year > 2120 && year < 9880 && year%83 > 1 {
			continue
		}
		for _, now := range []int{secondAt(year, 1, 1), secondAt(year+1, 1, 1) - 1} {
			greatest := min(year+50, 9999)
			for want := greatest - 99; want <= greatest; want++ {
				second := secondAt(want, 7, 4)
				s := oldText(second)
				if want < 1970 {
					mustBeNoDate(t, s, now)
				} else {
					mustBeSecond(t, s, now, second)
				}
			}
		}
	}
}

func TestEdgesOfCenturies(t *testing.T) {
	for _, c := range []struct {
		s    string
		now  int
		want int // -1: no date
	}{
		{"Friday, 31-Dec-20 23:59:59 GMT", 0, -1},           // of 2020 it was a Thursday
		{"Thursday, 31-Dec-20 23:59:59 GMT", 0, 1609459199}, // 50 years ahead of 1970
		{"Friday, 31-Dec-21 23:59:59 GMT", 0, -1},           // 1921
		{"Thursday, 01-Jan-70 00:00:00 GMT", 0, 0},
		{"Thursday, 01-Jan-70 00:00:00 GMT", secondAt(2020, 1, 1) - 1, 0},
		{"Thursday, 01-Jan-70 00:00:00 GMT", secondAt(2020, 1, 1), -1},
		{"Wednesday, 01-Jan-70 00:00:00 GMT", secondAt(2020, 1, 1), 3155760000},
		{"Wednesday, 01-Jan-70 00:00:00 GMT", secondAt(2020, 1, 1) - 1, -1},
		{"Friday, 31-Dec-99 23:59:59 GMT", maxSeconds, maxSeconds},
		{"Friday, 31-Dec-99 23:59:59 GMT", secondAt(9949, 1, 1), maxSeconds},
		{"Friday, 31-Dec-99 23:59:59 GMT", secondAt(9949, 1, 1) - 1, -1},
		{oldText(secondAt(9900, 1, 1) - 1), secondAt(9949, 1, 1) - 1, secondAt(9900, 1, 1) - 1}, // 9899
		{oldText(secondAt(9900, 1, 1) - 1), secondAt(9949, 1, 1), -1},
		{oldText(secondAt(10000, 1, 1)), maxSeconds, -1},
		{oldText(secondAt(9900, 1, 1)), maxSeconds, secondAt(9900, 1, 1)}, // not 10000
	} {
		if c.want < 0 {
			mustBeNoDate(t, c.s, c.now)
		} else {
			mustBeSecond(t, c.s, c.now, c.want)
		}
	}
}

// TestDigitsOfADayInAsctime: two digits, or a blank and one.
func TestDigitsOfADayInAsctime(t *testing.T) {
	for day := 1; day <= 31; day++ {
		second := secondAt(2001, 1, day) + 3661
		mustBeSecond(t, moment(second).Format("Mon Jan 02 15:04:05 2006"), 0, second)
		mustBeSecond(t, moment(second).Format("Mon Jan _2 15:04:05 2006"), 0, second)
		if day < 10 {
			mustBeNoDate(t, moment(second).Format("Mon Jan 2 15:04:05 2006"), 0)
		}
		mustBeNoDate(t, moment(second).Format("Mon Jan  02 15:04:05 2006"), 0)
	}
	mustBeNoDate(t, "Sun,  6 Nov 1994 08:49:37 GMT", 0)
	mustBeNoDate(t, "Sunday,  6-Nov-94 08:49:37 GMT", 0)
}

// TestLongTexts: a text of any length is read or not, and that soon.
func TestLongTexts(t *testing.T) {
	long := strings.Repeat("Sun, 06 Nov 1994 08:49:37 GMT", 200000)
	mustBeNoDate(t, long, 0)
	mustBeNoDate(t, strings.Repeat("0", 5000000), 0)
	mustBeNoDate(t, "Sun, 06 Nov 1994 08:49:37 GMT"+strings.Repeat(" ", 5000000), 0)
	mustBeNoLine(t, long)
	mustBeNoLine(t, strings.Repeat("0", 5000000))
	mustBeNoLine(t, strings.Repeat(`\x`, 2000000))
	e := api.Entry{User: strings.Repeat(`"`, 100000), Method: "GET", Target: "/" + strings.Repeat(`\`, 100000), Status: 200, Referer: strings.Repeat("a", 1000000), Agent: everyByte()}
	mustBeLine(t, e, modelLine(e))
}
