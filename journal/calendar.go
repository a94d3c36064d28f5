package journal

import "usher/api"

const (
	firstYear     = 1970
	lastYear      = 9999
	yearDays      = 365
	minuteSeconds = 60
	hourSeconds   = 60 * minuteSeconds
	daySeconds    = 24 * hourSeconds
	firstWeekday  = 4 // January 1st, 1970 was a Thursday
	february      = 2
)

// The names and the days of the months are asked by a month's number less one.
var (
	weekdays       = [...]string{"Sun", "Mon", "Tue", "Wed", "Thu", "Fri", "Sat"}
	weekdaysInFull = [...]string{"Sunday", "Monday", "Tuesday", "Wednesday", "Thursday", "Friday", "Saturday"}
	months         = [...]string{"Jan", "Feb", "Mar", "Apr", "May", "Jun", "Jul", "Aug", "Sep", "Oct", "Nov", "Dec"}
	monthDays      = [...]int{31, 28, 31, 30, 31, 30, 31, 31, 30, 31, 30, 31}
)

func isSecond(n int) bool { return n >= 0 && n <= api.MaxSeconds }

func isLeap(year int) bool {
	return year%4 == 0 && year%100 != 0 || year%400 == 0
}

func daysOf(year, month int) int {
	if month == february && isLeap(year) {
		return monthDays[month-1] + 1
	}
	return monthDays[month-1]
}

// leapsAhead is how many leap years there are from the year 1 on, ahead of that one.
func leapsAhead(year int) int {
	past := year - 1
	return past/4 - past/100 + past/400
}

// yearBegin is the day, counted from January 1st, 1970, on which a year begins.
func yearBegin(year int) int {
	return yearDays*(year-firstYear) + leapsAhead(year) - leapsAhead(firstYear)
}

// yearAt is the year of a day, and which day of that year it is, from 0 on. No year has fewer than yearDays days, so the first guess is never too early.
func yearAt(day int) (int, int) {
	year := firstYear + day/yearDays
	for yearBegin(year) > day {
		year--
	}
	return year, day - yearBegin(year)
}

func weekdayOf(day int) int {
	return (firstWeekday + day) % len(weekdays)
}

// dateOf is the date of what is a second.
func dateOf(second int) api.Date {
	day, time := second/daySeconds, second%daySeconds
	year, left := yearAt(day)
	month := 1
	for left >= daysOf(year, month) {
		left -= daysOf(year, month)
		month++
	}
	return api.Date{
		Year:    year,
		Month:   month,
		Day:     left + 1,
		Hour:    time / hourSeconds,
		Minute:  time % hourSeconds / minuteSeconds,
		Second:  time % minuteSeconds,
		Weekday: weekdayOf(day),
	}
}

// dayOf is the day of a moment, counted from January 1st, 1970.
func dayOf(d api.Date) int {
	day := yearBegin(d.Year) + d.Day - 1
	for month := 1; month < d.Month; month++ {
		day += daysOf(d.Year, month)
	}
	return day
}

// secondOf is the second of a moment.
func secondOf(d api.Date) int {
	return dayOf(d)*daySeconds + d.Hour*hourSeconds + d.Minute*minuteSeconds + d.Second
}

// isMoment: is d a date but for its weekday?
func isMoment(d api.Date) bool {
	return isWithin(d.Year, firstYear, lastYear) &&
		isWithin(d.Month, 1, len(months)) &&
		isWithin(d.Day, 1, daysOf(d.Year, d.Month)) &&
		isWithin(d.Hour, 0, 23) &&
		isWithin(d.Minute, 0, 59) &&
		isWithin(d.Second, 0, 59)
}

func isDate(d api.Date) bool {
	return isMoment(d) && d.Weekday == weekdayOf(dayOf(d))
}

func isWithin(n, least, greatest int) bool {
	return least <= n && n <= greatest
}
