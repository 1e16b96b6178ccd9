package civil_test

import (
	"math"
	"math/big"
	"math/rand/v2"
	"slices"
	"strconv"
	"strings"
	"testing"
	"time"

	"ringer/api"
	"ringer/civil"
)

// day is how many seconds a day has.
const day = 86400

// leap is whether a year is a leap year, told by its last digits: of a hundred years they alone say what 4 divides.
func leap(year int) bool {
	s := "000" + strings.TrimPrefix(strconv.Itoa(year), "-")
	last, _ := strconv.Atoi(s[len(s)-2:])
	ahead, _ := strconv.Atoi(s[len(s)-4 : len(s)-2])
	if last == 0 {
		return ahead%4 == 0
	}
	return last%4 == 0
}

// long is how many days a month has, 0 of what is none.
func long(year, month int) int {
	switch month {
	case 1, 3, 5, 7, 8, 10, 12:
		return 31
	case 4, 6, 9, 11:
		return 30
	case 2:
		if leap(year) {
			return 29
		}
		return 28
	}
	return 0
}

// may is whether a date may be, word for word as the document tells it.
func may(d api.Date) bool {
	return d.Year >= 1970 && d.Year <= 2399 && d.Month >= 1 && d.Month <= 12 && d.Day >= 1 && d.Day <= long(d.Year, d.Month)
}

// behind is the next day's date: the next one of the month, or the first one of the next month, or year.
func behind(d api.Date) api.Date {
	switch {
	case d.Day < long(d.Year, d.Month):
		d.Day++
	case d.Month < 12:
		d.Month, d.Day = d.Month+1, 1
	default:
		d.Year, d.Month, d.Day = d.Year+1, 1, 1
	}
	return d
}

// rises tells whether a is ahead of b: by the year, then the month, then the day.
func rises(a, b api.Date) bool {
	return slices.Compare([]int{a.Year, a.Month, a.Day}, []int{b.Year, b.Month, b.Day}) < 0
}

// far are numbers far beyond: the least and the greatest ones, those at which fewer bits go around, and some between.
func far() []int {
	l := []int{math.MinInt, math.MinInt + 1, math.MaxInt - 1, math.MaxInt, api.MaxTime, -api.MaxTime}
	for bits := 8; bits < 63; bits++ {
		for _, d := range []int{-2, -1, 0, 1, 2, 12, 28, 31, 1970, 2024, 2399} {
			l = append(l, 1<<bits+d, -1<<bits+d)
		}
	}
	r := rand.New(rand.NewPCG(4, 1))
	for range 500 {
		l = append(l, int(r.Uint64())>>r.UintN(64))
	}
	return l
}

// years are those that the document names, those that 4, 100 or 400 divide or do not, below 0 too, and far ones.
func years() []int {
	l := []int{1969, 1970, 1971, 1972, 2000, 2023, 2024, 2100, 2396, 2398, 2399, 2400}
	for year := -1000; year <= 5000; year++ {
		l = append(l, year)
	}
	for _, year := range far() {
		// Rounded towards 0, as no number stands beyond the least and the greatest ones.
		l = append(l, year, year/400*400, year/100*100, year/4*4)
	}
	return l
}

// months are those that there are, those beside them, and far ones.
func months() []int {
	l := []int{-100, 24, 25, 100}
	for month := -13; month <= 27; month++ {
		l = append(l, month)
	}
	return append(l, far()...)
}

// P4.1: the years that the document names.
func TestLeap(t *testing.T) {
	for year, want := range map[int]bool{
		1900: false, 2000: true, 1969: false, 1970: false, 1972: true, 2023: false, 2024: true, 2100: false, 2200: false, 2300: false, 2396: true, 2399: false, 2400: true,
		0: true, 1: false, 2: false, 3: false, 4: true, 96: true, 100: false, 104: true, 400: true, 500: false, 800: true,
		-1: false, -2: false, -3: false, -4: true, -96: true, -100: false, -104: true, -200: false, -300: false, -400: true, -401: false, -800: true,
		math.MinInt: true, math.MinInt + 1: false, math.MaxInt - 1: false, math.MaxInt: false, math.MaxInt - 3: true, math.MaxInt - 7: false, math.MaxInt - 407: false, math.MaxInt - 207: true,
	} {
		if civil.Leap(year) != want {
			t.Errorf("Leap(%d): %v", year, !want)
		}
	}
}

// P4.1: all years of some thousands, and far ones.
func TestLeapOfMany(t *testing.T) {
	for _, year := range years() {
		if got := civil.Leap(year); got != leap(year) {
			t.Errorf("Leap(%d): %v", year, got)
		}
	}
}

// P4.1: how many days the months have, in leap years and in others.
func TestLong(t *testing.T) {
	for year, february := range map[int]int{1900: 28, 2000: 29, 1970: 28, 1972: 29, 2023: 28, 2024: 29, 2100: 28, 2400: 29, 0: 29, -1: 28, -4: 29, -100: 28, -400: 29, math.MinInt: 29, math.MaxInt: 28} {
		for i, want := range []int{31, february, 31, 30, 31, 30, 31, 31, 30, 31, 30, 31} {
			if got := civil.Long(year, i+1); got != want {
				t.Errorf("Long(%d, %d): %d, want %d", year, i+1, got, want)
			}
		}
	}
}

// P4.1: of what is no month, 0; of what is one, its days, whatever the year.
func TestLongOfMany(t *testing.T) {
	for _, month := range []int{0, -1, 13, 14, -12, 24, 256 + 2, 1<<32 + 2, 1<<62 + 2, math.MinInt, math.MinInt + 2, math.MaxInt} {
		for _, year := range []int{1970, 2000, 2100, -4, math.MinInt, math.MaxInt} {
			if got := civil.Long(year, month); got != 0 {
				t.Errorf("Long(%d, %d): %d, want 0", year, month, got)
			}
		}
	}
	for _, month := range months() {
		for _, year := range []int{1969, 2000, 2023, 2100, -100} {
			if got := civil.Long(year, month); got != long(year, month) {
				t.Errorf("Long(%d, %d): %d", year, month, got)
			}
		}
	}
	for _, year := range years() {
		for month := range 14 {
			if got := civil.Long(year, month); got != long(year, month) {
				t.Errorf("Long(%d, %d): %d", year, month, got)
			}
		}
	}
}

// P4.1: the months of some thousands of years, as the calendar of Go's library has them.
func TestLongOfTheCalendar(t *testing.T) {
	for year := -1000; year <= 5000; year++ {
		for month := 1; month <= 12; month++ {
			want := time.Date(year, time.Month(month)+1, 0, 0, 0, 0, 0, time.UTC).Day()
			if got := civil.Long(year, month); got != want {
				t.Errorf("Long(%d, %d): %d, want %d", year, month, got, want)
			}
		}
	}
}

// asked fails unless May and Days tell of d what the document says.
func asked(t *testing.T, d api.Date) {
	t.Helper()
	n, e := civil.Days(d)
	if civil.May(d) != may(d) {
		t.Errorf("May(%v): %v", d, !may(d))
	}
	if !may(d) {
		if n != 0 || e != api.ErrArg {
			t.Errorf("Days(%v): %d, %d", d, n, e)
		}
		return
	}
	want := time.Date(d.Year, time.Month(d.Month), d.Day, 0, 0, 0, 0, time.UTC).Unix() / day
	if int64(n) != want || e != api.OK {
		t.Errorf("Days(%v): %d, %d; want %d", d, n, e, want)
	}
}

// P4.1, P4.2: dates that may be, and those just beside them.
func TestMay(t *testing.T) {
	for _, d := range []api.Date{
		{Year: 1970, Month: 1, Day: 1}, {Year: 2399, Month: 12, Day: 31}, {Year: 2000, Month: 2, Day: 29}, {Year: 2024, Month: 2, Day: 29}, {Year: 2100, Month: 2, Day: 28},
		{Year: 2023, Month: 2, Day: 28}, {Year: 2023, Month: 4, Day: 30}, {Year: 2023, Month: 12, Day: 1}, {Year: 2396, Month: 2, Day: 29},
	} {
		if !civil.May(d) {
			t.Errorf("May(%v): false", d)
		}
		asked(t, d)
	}
	for _, d := range []api.Date{
		{}, {Year: 1969, Month: 12, Day: 31}, {Year: 2400, Month: 1, Day: 1}, {Year: 2400, Month: 2, Day: 29}, {Year: 0, Month: 1, Day: 1}, {Year: -2000, Month: 1, Day: 1},
		{Year: 2023, Month: 2, Day: 29}, {Year: 2100, Month: 2, Day: 29}, {Year: 2000, Month: 2, Day: 30}, {Year: 2023, Month: 4, Day: 31}, {Year: 2023, Month: 12, Day: 32},
		{Year: 2023, Month: 0, Day: 1}, {Year: 2023, Month: 13, Day: 1}, {Year: 2023, Month: 13, Day: 0}, {Year: 2023, Month: -1, Day: 1}, {Year: 2023, Month: 1, Day: 0}, {Year: 2023, Month: 1, Day: -1},
		{Year: 2023, Month: 0, Day: 0}, {Year: 2000}, {Year: 2000, Month: 1}, {Month: 1, Day: 1},
		{Year: math.MinInt, Month: 1, Day: 1}, {Year: math.MaxInt, Month: 1, Day: 1}, {Year: 2000, Month: math.MinInt, Day: 1}, {Year: 2000, Month: math.MaxInt, Day: 1},
		{Year: 2000, Month: 1, Day: math.MinInt}, {Year: 2000, Month: 1, Day: math.MaxInt}, {Year: math.MaxInt, Month: math.MaxInt, Day: math.MaxInt}, {Year: math.MinInt, Month: math.MinInt, Day: math.MinInt},
	} {
		if civil.May(d) {
			t.Errorf("May(%v): true", d)
		}
		asked(t, d)
	}
}

// P4.1, P4.2: of each year all months, and those beside them, with all days, and those beside them.
func TestMayOfAll(t *testing.T) {
	for year := 1965; year <= 2405; year++ {
		for month := -1; month <= 14; month++ {
			for d := -1; d <= 33; d++ {
				asked(t, api.Date{Year: year, Month: month, Day: d})
			}
		}
	}
}

// P4.1, P4.2: dates of which one number, or each, is far beyond.
func TestMayOfFar(t *testing.T) {
	for _, n := range far() {
		for _, d := range []api.Date{
			{Year: n, Month: 2, Day: 1}, {Year: 2000, Month: n, Day: 1}, {Year: 2000, Month: 2, Day: n}, {Year: n, Month: n, Day: 1}, {Year: 2000, Month: n, Day: n}, {Year: n, Month: 1, Day: n},
			{Year: n, Month: n, Day: n}, {Year: 1970 + n%430, Month: 1 + n%12, Day: 1 + n%31},
		} {
			asked(t, d)
		}
	}
}

// P4.2: the document's examples, and the days at the edges.
func TestDays(t *testing.T) {
	for n, d := range map[int]api.Date{
		0: {Year: 1970, Month: 1, Day: 1}, 1: {Year: 1970, Month: 1, Day: 2}, 30: {Year: 1970, Month: 1, Day: 31}, 31: {Year: 1970, Month: 2, Day: 1}, 58: {Year: 1970, Month: 2, Day: 28}, 59: {Year: 1970, Month: 3, Day: 1},
		364: {Year: 1970, Month: 12, Day: 31}, 365: {Year: 1971, Month: 1, Day: 1}, 789: {Year: 1972, Month: 2, Day: 29}, 1095: {Year: 1972, Month: 12, Day: 31}, 1096: {Year: 1973, Month: 1, Day: 1},
		11016: {Year: 2000, Month: 2, Day: 29}, 11017: {Year: 2000, Month: 3, Day: 1}, 47540: {Year: 2100, Month: 2, Day: 28}, 47541: {Year: 2100, Month: 3, Day: 1}, 157053: {Year: 2399, Month: 12, Day: 31},
	} {
		if got, e := civil.Days(d); got != n || e != api.OK {
			t.Errorf("Days(%v): %d, %d; want %d", d, got, e, n)
		}
		if got, e := civil.Of(n); got != d || e != api.OK {
			t.Errorf("Of(%d): %v, %d; want %v", n, got, e, d)
		}
	}
	if n, e := civil.Days(api.Date{Year: 2023, Month: 2, Day: 29}); n != 0 || e != api.ErrArg {
		t.Errorf("Days of 2023-2-29: %d, %d", n, e)
	}
}

// P4.2: ErrArg, and no date, of what is no day.
func TestOfRefuses(t *testing.T) {
	for _, n := range append([]int{-1, -2, -365, -366, -157054, api.MaxDays, api.MaxDays + 1, 2 * api.MaxDays, math.MinInt, math.MaxInt}, far()...) {
		if n >= 0 && n < api.MaxDays {
			continue
		}
		if d, e := civil.Of(n); d != (api.Date{}) || e != api.ErrArg {
			t.Errorf("Of(%d): %v, %d", n, d, e)
		}
	}
}

// P4.2: each day's date, as the calendar of Go's library has it.
func TestOfTheCalendar(t *testing.T) {
	for n := range api.MaxDays {
		year, month, d := time.Unix(int64(n)*day, 0).UTC().Date()
		want := api.Date{Year: year, Month: int(month), Day: d}
		if got, e := civil.Of(n); got != want || e != api.OK {
			t.Fatalf("Of(%d): %v, %d; want %v", n, got, e, want)
		}
	}
}

// P4.3: the document's examples, and days at the edges.
func TestWeekday(t *testing.T) {
	for n, want := range map[int]int{
		0: 4, 1: 5, 2: 6, 3: 0, 4: 1, 5: 2, 6: 3, 7: 4, 11016: 2, 11017: 3, 157053: 5, 157054: 6,
		-1: 3, -2: 2, -3: 1, -4: 0, -5: 6, -6: 5, -7: 4, -8: 3, -11: 0, -12: 6,
		math.MinInt: 3, math.MinInt + 1: 4, math.MinInt + 4: 0, math.MinInt + 3: 6, math.MaxInt: 4, math.MaxInt - 1: 3, math.MaxInt - 4: 0,
	} {
		if got := civil.Weekday(n); got != want {
			t.Errorf("Weekday(%d): %d, want %d", n, got, want)
		}
	}
}

// P4.3: the days of the week of all days, of some years ahead and behind, as Go's library has them.
func TestWeekdayOfTheCalendar(t *testing.T) {
	for n := -10000; n < api.MaxDays+10000; n++ {
		if got, want := civil.Weekday(n), int(time.Unix(int64(n)*day, 0).UTC().Weekday()); got != want {
			t.Fatalf("Weekday(%d): %d, want %d", n, got, want)
		}
	}
}

// P4.3: the days of the week of far days, reckoned in numbers without an end.
func TestWeekdayOfFar(t *testing.T) {
	for _, n := range far() {
		wide := new(big.Int).Add(big.NewInt(int64(n)), big.NewInt(4))
		if got, want := civil.Weekday(n), int(wide.Mod(wide, big.NewInt(7)).Int64()); got != want {
			t.Errorf("Weekday(%d): %d, want %d", n, got, want)
		}
	}
}

// P4.4: each day's date has that day again; dates are in order as days are; the next day's date is the next one of the month, or the first one of the next month, or year.
func TestDaysAndDatesAreOneToOne(t *testing.T) {
	want, last := api.Date{Year: 1970, Month: 1, Day: 1}, api.Date{}
	for n := range api.MaxDays {
		d, e := civil.Of(n)
		if d != want || e != api.OK || !civil.May(d) {
			t.Fatalf("Of(%d): %v, %d; want %v", n, d, e, want)
		}
		if again, e := civil.Days(d); again != n || e != api.OK {
			t.Fatalf("Days(%v): %d, %d; want %d", d, again, e, n)
		}
		if !rises(last, d) {
			t.Fatalf("the day %d: %v, behind %v", n, d, last)
		}
		want, last = behind(d), d
	}
	if want != (api.Date{Year: 2400, Month: 1, Day: 1}) || civil.May(want) {
		t.Errorf("behind all days: %v", want)
	}
}

// P4.4: each date that may be has a day, one more than the date ahead of it, and that day's date is it again.
func TestDatesAndDaysAreOneToOne(t *testing.T) {
	n := 0
	for year := api.MinYear; year <= api.MaxYear; year++ {
		for month := 1; month <= 12; month++ {
			for d := 1; d <= long(year, month); d++ {
				date := api.Date{Year: year, Month: month, Day: d}
				if got, e := civil.Days(date); got != n || e != api.OK {
					t.Fatalf("Days(%v): %d, %d; want %d", date, got, e, n)
				}
				if again, e := civil.Of(n); again != date || e != api.OK {
					t.Fatalf("Of(%d): %v, %d; want %v", n, again, e, date)
				}
				n++
			}
		}
	}
	if n != api.MaxDays {
		t.Errorf("%d days, want %d", n, api.MaxDays)
	}
}

// P1: each call ends and none panics, at all numbers; P4.1 to P4.3 of each.
func FuzzCivil(f *testing.F) {
	for _, n := range []int{math.MinInt, -1, 0, 1, 2, 12, 13, 29, 31, 1970, 2000, 2399, 157053, 157054, math.MaxInt} {
		f.Add(n, n, n)
		f.Add(2000, 2, n)
		f.Add(n, 2, 29)
	}
	f.Fuzz(func(t *testing.T, a, b, c int) {
		for _, d := range []api.Date{{Year: a, Month: b, Day: c}, {Year: 1970 + a%430, Month: 1 + b%12, Day: 1 + c%31}} {
			asked(t, d)
			if got := civil.Leap(d.Year); got != leap(d.Year) {
				t.Errorf("Leap(%d): %v", d.Year, got)
			}
			if got := civil.Long(d.Year, d.Month); got != long(d.Year, d.Month) {
				t.Errorf("Long(%d, %d): %d", d.Year, d.Month, got)
			}
		}
		d, e := civil.Of(a)
		if n, _ := civil.Days(d); e == api.OK && (n != a || !may(d)) || e != api.OK && (d != api.Date{} || e != api.ErrArg) || (e == api.OK) != (a >= 0 && a < api.MaxDays) {
			t.Errorf("Of(%d): %v, %d", a, d, e)
		}
		if w := civil.Weekday(a); w < 0 || w > 6 || a < math.MaxInt && civil.Weekday(a+1) != (w+1)%7 {
			t.Errorf("Weekday(%d): %d", a, w)
		}
	})
}
