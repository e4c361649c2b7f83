package tests

import (
	"math"
	"slices"
	"testing"
	"time"

	"loop.example/g00714/impl"
)

func dayOf(t *testing.T, text string) int64 {
	t.Helper()
	day, ok := impl.ReadDate(text)
	if !ok {
		t.Fatalf("ReadDate(%q) returns false", text)
	}
	return day
}

func TestLeap(t *testing.T) {
	for year, want := range map[int64]bool{
		1970: false, 1972: true, 1900: false, 2000: true, 2024: true, 2026: false, 2100: false, 2200: false, 2400: true,
		0: true, 4: true, 100: false, 400: true, -1: false, -4: true, -100: false, -400: true,
		math.MaxInt64: false, math.MinInt64: true,
	} {
		if impl.Leap(year) != want {
			t.Errorf("Leap(%d) = %v", year, !want)
		}
	}
}

func TestDates(t *testing.T) {
	for _, r := range []struct {
		year, month, d, day int64
		text                string
	}{
		{1970, 1, 1, 0, "1970-01-01"}, {1970, 1, 31, 30, "1970-01-31"}, {1970, 2, 1, 31, "1970-02-01"}, {1970, 12, 31, 364, "1970-12-31"},
		{1971, 1, 1, 365, "1971-01-01"}, {1972, 2, 29, 789, "1972-02-29"}, {1972, 12, 31, 1095, "1972-12-31"}, {1973, 1, 1, 1096, "1973-01-01"},
		{2000, 2, 29, 11016, "2000-02-29"}, {2000, 3, 1, 11017, "2000-03-01"}, {2026, 11, 17, 20774, "2026-11-17"},
		{2100, 2, 28, 47540, "2100-02-28"}, {2100, 3, 1, 47541, "2100-03-01"}, {2243, 10, 17, impl.MaxDay, "2243-10-17"},
	} {
		if n, ok := impl.DayOf(r.year, r.month, r.d); !ok || n != r.day {
			t.Errorf("DayOf(%d, %d, %d) = %d, %v; want %d", r.year, r.month, r.d, n, ok, r.day)
		}
		if y, m, d := impl.DateOf(r.day); y != r.year || m != r.month || d != r.d {
			t.Errorf("DateOf(%d) = %d, %d, %d", r.day, y, m, d)
		}
		if s := impl.DateText(r.day); s != r.text {
			t.Errorf("DateText(%d) = %q; want %q", r.day, s, r.text)
		}
		if n, ok := impl.ReadDate(r.text); !ok || n != r.day {
			t.Errorf("ReadDate(%q) = %d, %v; want %d", r.text, n, ok, r.day)
		}
	}
}

func TestNoDate(t *testing.T) {
	const least, greatest = math.MinInt64, math.MaxInt64
	for _, r := range [][3]int64{
		{2025, 2, 29}, {2100, 2, 29}, {2200, 2, 29}, {2024, 2, 30}, {2026, 4, 31}, {2026, 6, 31}, {2026, 9, 31}, {2026, 11, 31}, {2026, 1, 32}, {2026, 12, 32},
		{2026, 1, 0}, {2026, 1, -1}, {2026, 0, 1}, {2026, -1, 1}, {2026, 13, 1},
		{1969, 12, 31}, {1968, 2, 29}, {0, 1, 1}, {-1, 1, 1}, {2243, 10, 18}, {2243, 11, 1}, {2243, 12, 31}, {2244, 1, 1}, {9999, 12, 31},
		{least, 1, 1}, {greatest, 1, 1}, {2026, least, 1}, {2026, greatest, 1}, {2026, 1, least}, {2026, 1, greatest}, {least, least, least}, {greatest, greatest, greatest},
	} {
		if n, ok := impl.DayOf(r[0], r[1], r[2]); ok || n != 0 {
			t.Errorf("DayOf%v = %d, %v", r, n, ok)
		}
	}
	for _, day := range []int64{-1, impl.MaxDay + 1, least, greatest} {
		if y, m, d := impl.DateOf(day); y != 0 || m != 0 || d != 0 {
			t.Errorf("DateOf(%d) = %d, %d, %d", day, y, m, d)
		}
		if s := impl.DateText(day); s != "" {
			t.Errorf("DateText(%d) = %q", day, s)
		}
	}
}

func TestReadDateRejects(t *testing.T) {
	for _, s := range []string{
		"", "2026", "2026-11", "2026-11-1", "2026-1-11", "26-11-16", "2026-11-160", "02026-11-16", "2026/11/16", "2026-11/16", "2026/11-16", "20261116", "2026111166",
		" 2026-11-16", "2026-11-16 ", "2026-11-16\n", "2026-11- 6", "2026- 1-16", "2026-11-+6", "2026-+1-16", "+026-11-16", "-026-11-16", "2026-11--6", "2026-1a-16", "2026-0:-16", "2026-11-0:", "19:0-01-01", "2026-0/-16", "２26-11-16",
		"2026-00-01", "2026-13-01", "2026-01-00", "2026-01-32", "2025-02-29", "2100-02-29", "2026-04-31", "1969-12-31", "2243-10-18", "2244-01-01", "9999-12-31", "0000-00-00",
	} {
		if n, ok := impl.ReadDate(s); ok || n != 0 {
			t.Errorf("ReadDate(%q) = %d, %v", s, n, ok)
		}
	}
}

func TestEachDayRecovered(t *testing.T) {
	previous := ""
	for day := int64(0); day <= impl.MaxDay; day++ {
		y, m, d := impl.DateOf(day)
		if n, ok := impl.DayOf(y, m, d); !ok || n != day {
			t.Fatalf("DayOf(%d, %d, %d) = %d, %v; want %d", y, m, d, n, ok, day)
		}
		s := impl.DateText(day)
		if n, ok := impl.ReadDate(s); !ok || n != day {
			t.Fatalf("ReadDate(%q) = %d, %v; want %d", s, n, ok, day)
		}
		if s <= previous {
			t.Fatalf("the text %q of day %d is not greater than %q", s, day, previous)
		}
		if want := time.Unix(day*86400, 0).UTC().Format(time.DateOnly); s != want {
			t.Fatalf("DateText(%d) = %q; want %q", day, s, want)
		}
		previous = s
	}
}

// TestDatesAlone checks that each date that DayOf accepts is the date of its day, so that no two dates have one day.
func TestDatesAlone(t *testing.T) {
	count := 0
	for year := int64(1960); year <= 2250; year++ {
		for month := int64(-1); month <= 14; month++ {
			for d := int64(-1); d <= 33; d++ {
				day, ok := impl.DayOf(year, month, d)
				if !ok {
					continue
				}
				count++
				if y, m, e := impl.DateOf(day); y != year || m != month || e != d {
					t.Fatalf("DayOf(%d, %d, %d) = %d", year, month, d, day)
				}
			}
		}
	}
	if count != impl.MaxDay+1 {
		t.Error("dates:", count)
	}
}

func TestMonthsOn(t *testing.T) {
	for _, r := range []struct {
		from string
		n    int64
		want string
	}{
		{"2025-01-31", 0, "2025-01-31"}, {"2025-01-31", 1, "2025-02-28"}, {"2025-01-31", 2, "2025-03-31"}, {"2025-01-31", 3, "2025-04-30"},
		{"2025-01-31", 11, "2025-12-31"}, {"2025-01-31", 12, "2026-01-31"}, {"2025-01-31", 13, "2026-02-28"}, {"2025-01-31", 37, "2028-02-29"},
		{"2025-01-30", 1, "2025-02-28"}, {"2025-01-29", 1, "2025-02-28"}, {"2025-01-28", 1, "2025-02-28"}, {"2024-01-30", 1, "2024-02-29"}, {"2024-01-29", 1, "2024-02-29"},
		{"2024-02-29", 12, "2025-02-28"}, {"2024-02-29", 48, "2028-02-29"}, {"2025-02-28", 1, "2025-03-28"}, {"2099-12-31", 2, "2100-02-28"}, {"2000-01-31", 1, "2000-02-29"},
		{"2025-12-31", 1, "2026-01-31"}, {"2025-11-30", 1, "2025-12-30"}, {"2025-11-30", 2, "2026-01-30"}, {"2025-12-01", 12, "2026-12-01"},
		{"1970-01-01", 600, "2020-01-01"}, {"2193-10-17", 600, "2243-10-17"}, {"2243-09-17", 1, "2243-10-17"}, {"2243-10-17", 0, "2243-10-17"},
	} {
		if s := impl.DateText(impl.MonthsOn(dayOf(t, r.from), r.n)); s != r.want {
			t.Errorf("MonthsOn of %s and %d: %q; want %q", r.from, r.n, s, r.want)
		}
	}
}

func TestMonthsOnRejects(t *testing.T) {
	for _, r := range []struct{ day, n int64 }{
		{-1, 0}, {impl.MaxDay + 1, 0}, {-1, 1}, {math.MinInt64, 1}, {math.MaxInt64, 1},
		{0, -1}, {0, 601}, {0, math.MinInt64}, {0, math.MaxInt64}, {31, -1},
		{impl.MaxDay, 1}, {impl.MaxDay, 600}, {dayOf(t, "2243-09-18"), 1}, {dayOf(t, "2193-10-18"), 600}, {dayOf(t, "2243-08-31"), 2},
	} {
		if n := impl.MonthsOn(r.day, r.n); n != -1 {
			t.Errorf("MonthsOn(%d, %d) = %d; want -1", r.day, r.n, n)
		}
	}
}

// monthsOn takes day 0 of the month behind the result for the last day of the month of the result.
func monthsOn(day int64, n int) int64 {
	y, m, d := time.Unix(day*86400, 0).UTC().Date()
	last := time.Date(y, m+time.Month(n)+1, 0, 0, 0, 0, 0, time.UTC)
	result := last.AddDate(0, 0, min(d, last.Day())-last.Day()).Unix() / 86400
	if result > impl.MaxDay {
		return -1
	}
	return result
}

func TestMonthsOnByCalendar(t *testing.T) {
	for day := int64(0); day <= impl.MaxDay; day += 7 {
		for _, n := range []int{0, 1, 2, 3, 11, 12, 13, int(day % 601)} {
			if got, want := impl.MonthsOn(day, int64(n)), monthsOn(day, n); got != want {
				t.Fatalf("MonthsOn(%d, %d) = %d; want %d", day, n, got, want)
			}
		}
	}
}

func TestDueDays(t *testing.T) {
	for _, r := range []struct {
		from string
		want []string
	}{
		{"2025-01-31", []string{"2025-02-28"}},
		{"2025-01-31", []string{"2025-02-28", "2025-03-31", "2025-04-30", "2025-05-31"}},
		{"2023-12-31", []string{"2024-01-31", "2024-02-29", "2024-03-31"}},
		{"2025-10-15", []string{"2025-11-15", "2025-12-15", "2026-01-15"}},
		{"2243-08-17", []string{"2243-09-17", "2243-10-17"}},
	} {
		var texts []string
		for _, day := range impl.DueDays(dayOf(t, r.from), int64(len(r.want))) {
			texts = append(texts, impl.DateText(day))
		}
		if !slices.Equal(texts, r.want) {
			t.Errorf("DueDays from %s: %v; want %v", r.from, texts, r.want)
		}
	}
}

func TestDueDaysRejects(t *testing.T) {
	if l := impl.DueDays(0, impl.MaxParts); len(l) != impl.MaxParts {
		t.Error("MaxParts:", l)
	}
	for _, r := range []struct{ day, n int64 }{
		{0, 0}, {0, -1}, {0, impl.MaxParts + 1}, {0, math.MinInt64}, {0, math.MaxInt64},
		{-1, 1}, {impl.MaxDay + 1, 1}, {math.MinInt64, 3}, {math.MaxInt64, 3},
		{impl.MaxDay, 1}, {dayOf(t, "2243-08-17"), 3}, {dayOf(t, "2243-08-18"), 2}, {dayOf(t, "2241-10-18"), impl.MaxParts},
	} {
		if l := impl.DueDays(r.day, r.n); len(l) != 0 {
			t.Errorf("DueDays(%d, %d) = %v; want nothing", r.day, r.n, l)
		}
	}
}

func TestDueDaysIncrease(t *testing.T) {
	for day := int64(0); day <= impl.MaxDay; day++ {
		l := impl.DueDays(day, impl.MaxParts)
		if len(l) == 0 {
			if impl.MonthsOn(day, impl.MaxParts) != -1 {
				t.Fatalf("DueDays(%d, %d) returns nothing", day, impl.MaxParts)
			}
			continue
		}
		previous := day
		for i, due := range l {
			if due <= previous || due != impl.MonthsOn(day, int64(i)+1) {
				t.Fatalf("DueDays(%d, %d) = %v", day, impl.MaxParts, l)
			}
			previous = due
		}
	}
}
