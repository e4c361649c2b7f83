package impl

const (
	MaxDay   = 100000
	MaxParts = 24
)

const (
	firstYear = 1970
	lastYear  = 2243 // the year of MaxDay
	maxMonths = 600
	february  = 2
)

var monthLengths = [12]int64{31, 28, 31, 30, 31, 30, 31, 31, 30, 31, 30, 31}

func isDay(day int64) bool { return day >= 0 && day <= MaxDay }

func Leap(year int64) bool {
	return year%4 == 0 && (year%100 != 0 || year%400 == 0)
}

func monthLength(year int64, month int64) int64 {
	if month == february && Leap(year) {
		return monthLengths[month-1] + 1
	}
	return monthLengths[month-1]
}

// newYear returns the day of January 1, also for the year after the last one.
func newYear(year int64) int64 {
	return (year-firstYear)*365 + leapYearsBefore(year) - leapYearsBefore(firstYear)
}

func leapYearsBefore(year int64) int64 {
	last := year - 1
	return last/4 - last/100 + last/400
}

func DayOf(year int64, month int64, d int64) (int64, bool) {
	if year < firstYear || year > lastYear || month < 1 || month > 12 {
		return 0, false
	}
	if d < 1 || d > monthLength(year, month) {
		return 0, false
	}
	day := newYear(year) + d - 1
	for m := int64(1); m < month; m++ {
		day += monthLength(year, m)
	}
	if !isDay(day) {
		return 0, false
	}
	return day, true
}

func DateOf(day int64) (int64, int64, int64) {
	if !isDay(day) {
		return 0, 0, 0
	}
	year := int64(firstYear)
	for newYear(year+1) <= day {
		year++
	}
	month, rest := int64(1), day-newYear(year)
	for rest >= monthLength(year, month) {
		rest -= monthLength(year, month)
		month++
	}
	return year, month, rest + 1
}

func DateText(day int64) string {
	if !isDay(day) {
		return ""
	}
	year, month, d := DateOf(day)
	return padded(year, 4) + "-" + padded(month, 2) + "-" + padded(d, 2)
}

func ReadDate(s string) (int64, bool) {
	if len(s) != len("1970-01-01") || s[4] != '-' || s[7] != '-' {
		return 0, false
	}
	year, yearOk := digitsValue(s[:4])
	month, monthOk := digitsValue(s[5:7])
	d, dOk := digitsValue(s[8:])
	if !yearOk || !monthOk || !dOk {
		return 0, false
	}
	return DayOf(year, month, d)
}

func MonthsOn(day int64, n int64) int64 {
	if !isDay(day) || n < 0 || n > maxMonths {
		return -1
	}
	year, month, d := DateOf(day)
	months := month - 1 + n
	year, month = year+months/12, months%12+1
	result, ok := DayOf(year, month, min(d, monthLength(year, month)))
	if !ok {
		return -1
	}
	return result
}

// DueDays counts the months from the first day each time: a day that one month shortens is whole again in the next.
func DueDays(day int64, n int64) []int64 {
	if n < 1 || n > MaxParts {
		return nil
	}
	due := make([]int64, 0, n)
	for i := int64(1); i <= n; i++ {
		next := MonthsOn(day, i)
		if next == -1 {
			return nil
		}
		due = append(due, next)
	}
	return due
}
