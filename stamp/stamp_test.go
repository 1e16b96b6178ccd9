package stamp_test

import (
	"cmp"
	"fmt"
	"math"
	"math/big"
	"math/rand/v2"
	"slices"
	"testing"
	"time"

	"ringer/api"
	"ringer/stamp"
)

// last is the last moment that there is.
const last = api.MaxTime - 1

// clock is what the calendar of Go's library says of a moment.
func clock(t int64) api.Clock {
	u := time.Unix(t, 0).UTC()
	return api.Clock{Date: api.Date{Year: u.Year(), Month: int(u.Month()), Day: u.Day()}, Hour: u.Hour(), Minute: u.Minute(), Second: u.Second(), Weekday: int(u.Weekday())}
}

// may is whether a clock may be, word for word as the document tells it; the dates are those of Go's library.
func may(c api.Clock) bool {
	within := func(n, least, most int) bool { return n >= least && n <= most }
	if !within(c.Year, 1970, 2399) || !within(c.Month, 1, 12) || !within(c.Day, 1, 31) {
		return false
	}
	u := time.Date(c.Year, time.Month(c.Month), c.Day, 0, 0, 0, 0, time.UTC)
	return u.Day() == c.Day && within(c.Hour, 0, 23) && within(c.Minute, 0, 59) && within(c.Second, 0, 59) && int(u.Weekday()) == c.Weekday
}

// joined is the moment of a clock that may be, by Go's library.
func joined(c api.Clock) int64 {
	return time.Date(c.Year, time.Month(c.Month), c.Day, c.Hour, c.Minute, c.Second, 0, time.UTC).Unix()
}

// text is the text of a clock that may be.
func text(c api.Clock) string {
	return fmt.Sprintf("%04d-%02d-%02dT%02d:%02d:%02d", c.Year, c.Month, c.Day, c.Hour, c.Minute, c.Second)
}

// numbers are a clock's, the day of the week aside, the greatest things first.
func numbers(c api.Clock) []int {
	return []int{c.Year, c.Month, c.Day, c.Hour, c.Minute, c.Second}
}

// fields are the places of all numbers of a clock.
func fields(c *api.Clock) []*int {
	return []*int{&c.Year, &c.Month, &c.Day, &c.Hour, &c.Minute, &c.Second, &c.Weekday}
}

// far are numbers far beyond: the least and the greatest ones, those at which fewer bits go around, some between, and all just beside.
func far() []int64 {
	l := []int64{math.MinInt64, math.MinInt64 + 1, math.MaxInt64 - 1, math.MaxInt64, math.MaxInt64 - last, math.MaxInt64 - last + 1, math.MinInt64 + last}
	for bits := 5; bits < 63; bits++ {
		for _, d := range []int64{-86400, -3600, -60, -2, -1, 0, 1, 2, 23, 24, 59, 60, 3600, 86400} {
			l = append(l, 1<<bits+d, -1<<bits+d)
		}
	}
	r := rand.New(rand.NewPCG(5, 1))
	for range 500 {
		l = append(l, int64(r.Uint64())>>r.UintN(64))
	}
	return l
}

// moments are those at the edges that the document names, at the edges of each year, and some of all.
func moments() []int64 {
	l := []int64{0, 1, 59, 60, 61, 119, 120, 3599, 3600, 3601, 86399, 86400, 86401, 951782399, 951782400, 951868799, 951868800, last - 86400, last - 3600, last - 60, last - 1, last}
	for year := 1970; year <= 2399; year++ {
		for month := range 12 {
			at := time.Date(year, time.Month(month+1), 1, 0, 0, 0, 0, time.UTC).Unix()
			l = append(l, at, at+86399)
			if at > 0 {
				l = append(l, at-1)
			}
		}
	}
	r := rand.New(rand.NewPCG(5, 2))
	for range 20000 {
		l = append(l, r.Int64N(api.MaxTime))
	}
	return l
}

// of is a clock of these numbers, with its date's day of the week.
func of(year, month, day, hour, minute, second int) api.Clock {
	w := time.Date(year, time.Month(month), day, 0, 0, 0, 0, time.UTC).Weekday()
	return api.Clock{Date: api.Date{Year: year, Month: month, Day: day}, Hour: hour, Minute: minute, Second: second, Weekday: int(w)}
}

// asked fails unless May, Join and Text tell of a clock what the document says.
func asked(t *testing.T, c api.Clock) {
	t.Helper()
	if got := stamp.May(c); got != may(c) {
		t.Errorf("May(%v): %v", c, got)
	}
	var n int64
	want, said := api.ErrArg, ""
	if may(c) {
		n, want, said = joined(c), api.OK, text(c)
	}
	if got, e := stamp.Join(c); got != n || e != want {
		t.Errorf("Join(%v): %d, %d; want %d, %d", c, got, e, n, want)
	}
	if got := stamp.Text(c); got != said {
		t.Errorf("Text(%v): %q, want %q", c, got, said)
	}
}

// split fails unless Split and Floor tell of a number what the document says.
func split(t *testing.T, n int64) {
	t.Helper()
	c, e := stamp.Split(n)
	floor, f := stamp.Floor(n)
	if n < 0 || n >= api.MaxTime {
		if c != (api.Clock{}) || e != api.ErrRange || floor != 0 || f != api.ErrRange {
			t.Errorf("of %d: Split %v, %d; Floor %d, %d", n, c, e, floor, f)
		}
		return
	}
	if c != clock(n) || e != api.OK {
		t.Errorf("Split(%d): %v, %d; want %v", n, c, e, clock(n))
	}
	if want := time.Unix(n, 0).Truncate(time.Minute).Unix(); floor != want || f != api.OK {
		t.Errorf("Floor(%d): %d, %d; want %d", n, floor, f, want)
	}
}

// added fails unless Add tells of two numbers what the document says; their sum is reckoned in numbers without an end.
func added(t *testing.T, at, n int64) {
	t.Helper()
	var want int64
	sum, e := new(big.Int).Add(big.NewInt(at), big.NewInt(n)), api.ErrRange
	if at >= 0 && at < api.MaxTime && sum.Sign() >= 0 && sum.Cmp(big.NewInt(api.MaxTime)) < 0 {
		want, e = sum.Int64(), api.OK
	}
	if got, f := stamp.Add(at, n); got != want || f != e {
		t.Errorf("Add(%d, %d): %d, %d; want %d, %d", at, n, got, f, want, e)
	}
}

// P5.1: the document's examples, and moments at the edges.
func TestSplit(t *testing.T) {
	date := func(year, month, day int) api.Date { return api.Date{Year: year, Month: month, Day: day} }
	for at, want := range map[int64]api.Clock{
		0:           {Date: date(1970, 1, 1), Weekday: 4},
		59:          {Date: date(1970, 1, 1), Second: 59, Weekday: 4},
		60:          {Date: date(1970, 1, 1), Minute: 1, Weekday: 4},
		3599:        {Date: date(1970, 1, 1), Minute: 59, Second: 59, Weekday: 4},
		3600:        {Date: date(1970, 1, 1), Hour: 1, Weekday: 4},
		86399:       {Date: date(1970, 1, 1), Hour: 23, Minute: 59, Second: 59, Weekday: 4},
		86400:       {Date: date(1970, 1, 2), Weekday: 5},
		259200:      {Date: date(1970, 1, 4)},
		951782399:   {Date: date(2000, 2, 28), Hour: 23, Minute: 59, Second: 59, Weekday: 1},
		951782400:   {Date: date(2000, 2, 29), Weekday: 2},
		1234567890:  {Date: date(2009, 2, 13), Hour: 23, Minute: 31, Second: 30, Weekday: 5},
		2147483648:  {Date: date(2038, 1, 19), Hour: 3, Minute: 14, Second: 8, Weekday: 2},
		13569465599: {Date: date(2399, 12, 31), Hour: 23, Minute: 59, Second: 59, Weekday: 5},
	} {
		if got, e := stamp.Split(at); got != want || e != api.OK {
			t.Errorf("Split(%d): %v, %d; want %v", at, got, e, want)
		}
		if got, e := stamp.Join(want); got != at || e != api.OK || !stamp.May(want) {
			t.Errorf("Join(%v): %d, %d; want %d", want, got, e, at)
		}
	}
}

// P5.1: ErrRange, and no clock, of what is no moment.
func TestSplitRefuses(t *testing.T) {
	for _, at := range []int64{-1, -2, -59, -60, -86399, -86400, -86401, -last, 13569465600, 13569465601, 13569465659, 13569465660, 13569552000, math.MinInt64, math.MinInt64 + 1, math.MaxInt64} {
		if got, e := stamp.Split(at); got != (api.Clock{}) || e != api.ErrRange {
			t.Errorf("Split(%d): %v, %d", at, got, e)
		}
	}
}

// P5.1, P5.2: the clocks, and the minutes, of many moments, as Go's library has them, and of far numbers.
func TestSplitOfMany(t *testing.T) {
	for _, at := range append(moments(), far()...) {
		split(t, at)
	}
}

// P5.1: clocks at the edges that may be.
func TestMay(t *testing.T) {
	for _, c := range []api.Clock{
		of(1970, 1, 1, 0, 0, 0), of(1970, 1, 1, 0, 0, 59), of(1970, 1, 1, 0, 59, 0), of(1970, 1, 1, 23, 0, 0), of(1970, 1, 1, 23, 59, 59), of(2399, 12, 31, 23, 59, 59), of(2399, 12, 31, 0, 0, 0),
		of(2000, 2, 29, 12, 30, 15), of(2024, 2, 29, 0, 0, 0), of(2023, 2, 28, 1, 2, 3), of(2100, 2, 28, 1, 2, 3), of(2023, 4, 30, 7, 8, 9),
	} {
		if !stamp.May(c) {
			t.Errorf("May(%v): false", c)
		}
		asked(t, c)
	}
}

// P5.1, P5.3: clocks just beside those that may be, each of one number that is beyond, or of a day of the week that isn't the date's.
func TestMayRefuses(t *testing.T) {
	with := func(f func(*api.Clock)) api.Clock {
		c := of(2000, 2, 29, 12, 30, 30)
		f(&c)
		return c
	}
	l := []api.Clock{
		{}, {Weekday: 4}, {Date: api.Date{Year: 1970, Month: 1, Day: 1}}, {Date: api.Date{Year: 1970, Month: 1, Day: 1}, Weekday: 5},
		of(1969, 12, 31, 23, 59, 59), of(2400, 1, 1, 0, 0, 0), of(1969, 1, 1, 0, 0, 0), of(2400, 2, 29, 0, 0, 0), of(2023, 2, 29, 0, 0, 0), of(2100, 2, 29, 0, 0, 0), of(2000, 2, 30, 0, 0, 0),
		of(2023, 0, 1, 0, 0, 0), of(2023, 13, 1, 0, 0, 0), of(2023, 1, 0, 0, 0, 0), of(2023, 1, 32, 0, 0, 0), of(2023, 4, 31, 0, 0, 0), of(2023, 1, -1, 0, 0, 0), of(2023, -1, 1, 0, 0, 0),
	}
	for _, n := range []int{-1, 24, 25, -24, -23, 48, math.MinInt, math.MaxInt} {
		l = append(l, with(func(c *api.Clock) { c.Hour = n }))
	}
	for _, n := range []int{-1, 60, 61, -60, -59, 120, math.MinInt, math.MaxInt} {
		l = append(l, with(func(c *api.Clock) { c.Minute = n }), with(func(c *api.Clock) { c.Second = n }))
	}
	for _, n := range []int{-1, 0, 1, 3, 4, 5, 6, 7, 9, -5, 2 - 7, 2 + 7, math.MinInt, math.MaxInt} {
		l = append(l, with(func(c *api.Clock) { c.Weekday = n }))
	}
	for _, c := range l {
		if stamp.May(c) {
			t.Errorf("May(%v): true", c)
		}
		asked(t, c)
	}
}

// P5.1: numbers that are beyond, though all of them together lead to a moment: they are added, or go round, to what another clock has.
func TestMayOfSumsThatFit(t *testing.T) {
	for _, c := range []api.Clock{
		{Hour: 24, Minute: -60, Second: 0}, {Hour: 23, Minute: 60, Second: -60}, {Hour: 12, Minute: -1, Second: 60}, {Hour: 1, Minute: -60}, {Hour: 0, Minute: 1, Second: -60}, {Hour: -1, Minute: 59, Second: 60},
		{Minute: 1440}, {Second: 86399}, {Second: 86400}, {Hour: -24, Second: 86400},
		// 3600 and 60 have so many factors of 2 that these go round to the same sum in 64 bits.
		{Hour: 12 + 1<<60}, {Hour: 12 - 1<<60}, {Minute: 1 << 62}, {Minute: 30 - 1<<62}, {Hour: 1 << 62, Minute: 1}, {Hour: math.MinInt}, {Minute: math.MinInt}, {Hour: math.MinInt, Minute: math.MinInt},
		{Hour: 1 << 32}, {Minute: 1 << 32, Second: 1}, {Second: 1 << 32}, {Hour: 1 + 1<<8}, {Minute: 1 + 1<<16}, {Second: 1 + 1<<32},
	} {
		for _, date := range []api.Date{{Year: 1970, Month: 1, Day: 1}, {Year: 1970, Month: 1, Day: 2}, {Year: 2000, Month: 2, Day: 29}, {Year: 2399, Month: 12, Day: 31}} {
			c.Date = date
			for w := range 7 {
				c.Weekday = w
				if stamp.May(c) {
					t.Errorf("May(%v): true", c)
				}
				asked(t, c)
			}
		}
	}
}

// P5.1, P5.3: all hours, minutes and seconds, and those beside them, of a day.
func TestMayOfADay(t *testing.T) {
	for hour := -2; hour <= 26; hour++ {
		for minute := -2; minute <= 62; minute++ {
			for second := -2; second <= 62; second++ {
				c := of(2000, 2, 29, hour, minute, second)
				if want := hour >= 0 && hour < 24 && minute >= 0 && minute < 60 && second >= 0 && second < 60; stamp.May(c) != want {
					t.Fatalf("May(%v): %v", c, !want)
				}
				asked(t, c)
			}
		}
	}
}

// P5.1: all dates, and those beside them, with all days of the week, and those beside them.
func TestMayOfAllDates(t *testing.T) {
	for year := 1968; year <= 2401; year++ {
		for month := 0; month <= 13; month++ {
			for day := range 33 {
				c := of(year, month, day, 23, 0, 59)
				asked(t, c)
				if month%6 != 2 || day < 27 {
					continue
				}
				for w := -2; w <= 8; w++ {
					c.Weekday = w
					asked(t, c)
				}
			}
		}
	}
}

// P5.1, P5.3: clocks of which one number is far beyond.
func TestMayOfFar(t *testing.T) {
	for _, n := range far() {
		for i := range 7 {
			for _, c := range []api.Clock{of(1970, 1, 1, 0, 0, 0), of(2000, 2, 29, 12, 30, 30)} {
				*fields(&c)[i] = int(n)
				asked(t, c)
			}
		}
	}
}

// P5.2: the document's examples, and sums that are just a moment, or just none.
func TestAdd(t *testing.T) {
	for _, x := range []struct {
		at, n, want int64
		e           api.Errno
	}{
		{5, -6, 0, api.ErrRange}, {5, 9, 14, api.OK}, {5, -5, 0, api.OK}, {5, 0, 5, api.OK},
		{0, 0, 0, api.OK}, {0, -1, 0, api.ErrRange}, {0, 1, 1, api.OK}, {0, last, last, api.OK}, {0, last + 1, 0, api.ErrRange},
		{last, 0, last, api.OK}, {last, 1, 0, api.ErrRange}, {last, -last, 0, api.OK}, {last, -last - 1, 0, api.ErrRange}, {last, -1, last - 1, api.OK}, {last - 1, 1, last, api.OK}, {last - 1, 2, 0, api.ErrRange},
		{59, 1, 60, api.OK}, {60, -1, 59, api.OK}, {86399, 1, 86400, api.OK}, {86400, 13569379199, last, api.OK}, {86400, 13569379200, 0, api.ErrRange},
		{-1, 0, 0, api.ErrRange}, {-1, 1, 0, api.ErrRange}, {-1, 2, 0, api.ErrRange}, {-5, 10, 0, api.ErrRange}, {api.MaxTime, 0, 0, api.ErrRange}, {api.MaxTime, -1, 0, api.ErrRange}, {api.MaxTime + 5, -10, 0, api.ErrRange},
		{0, math.MaxInt64, 0, api.ErrRange}, {1, math.MaxInt64, 0, api.ErrRange}, {last, math.MaxInt64, 0, api.ErrRange}, {last, math.MaxInt64 - last, 0, api.ErrRange}, {last, math.MaxInt64 - last + 1, 0, api.ErrRange},
		{0, math.MinInt64, 0, api.ErrRange}, {1, math.MinInt64, 0, api.ErrRange}, {last, math.MinInt64, 0, api.ErrRange}, {last, math.MinInt64 + last, 0, api.ErrRange},
		{math.MaxInt64, math.MinInt64, 0, api.ErrRange}, {math.MaxInt64, math.MinInt64 + 1, 0, api.ErrRange}, {math.MaxInt64, math.MinInt64 + 2, 0, api.ErrRange}, {math.MaxInt64, 1, 0, api.ErrRange},
		{math.MinInt64, math.MaxInt64, 0, api.ErrRange}, {math.MinInt64, math.MinInt64, 0, api.ErrRange}, {math.MinInt64, -1, 0, api.ErrRange}, {math.MaxInt64, math.MaxInt64, 0, api.ErrRange},
	} {
		if got, e := stamp.Add(x.at, x.n); got != x.want || e != x.e {
			t.Errorf("Add(%d, %d): %d, %d; want %d, %d", x.at, x.n, got, e, x.want, x.e)
		}
		added(t, x.at, x.n)
	}
}

// P5.2: sums of moments, of what is none, and of far numbers, and those that are just the first or the last moment.
func TestAddOfMany(t *testing.T) {
	some := append(moments()[:200], far()...)
	for _, at := range some {
		for _, n := range some {
			added(t, at, n)
		}
		// Where these go round themselves, they are numbers as good as others.
		for d := int64(-2); d <= 2; d++ {
			added(t, at, d-at)
			added(t, at, last+d-at)
			added(t, at, math.MaxInt64-at+d)
			added(t, at, math.MinInt64-at+d)
		}
	}
}

// P5.2: the document's example, and minutes at the edges.
func TestFloor(t *testing.T) {
	for at, want := range map[int64]int64{125: 120, 0: 0, 1: 0, 59: 0, 60: 60, 61: 60, 119: 60, 120: 120, 3599: 3540, 3600: 3600, 86399: 86340, 86400: 86400, 951782399: 951782340, 13569465539: 13569465480, 13569465540: 13569465540, 13569465599: 13569465540} {
		if got, e := stamp.Floor(at); got != want || e != api.OK {
			t.Errorf("Floor(%d): %d, %d; want %d", at, got, e, want)
		}
	}
	for _, at := range []int64{-1, -59, -60, -61, 13569465600, 13569465601, 13569465660, math.MinInt64, math.MaxInt64} {
		if got, e := stamp.Floor(at); got != 0 || e != api.ErrRange {
			t.Errorf("Floor(%d): %d, %d", at, got, e)
		}
	}
}

// P5.3: the document's example, and texts with numbers of one digit, and of two.
func TestText(t *testing.T) {
	for want, c := range map[string]api.Clock{
		"1970-01-01T00:00:00": of(1970, 1, 1, 0, 0, 0),
		"1970-01-01T00:00:59": of(1970, 1, 1, 0, 0, 59),
		"1970-01-01T23:59:00": of(1970, 1, 1, 23, 59, 0),
		"2000-02-28T23:59:59": of(2000, 2, 28, 23, 59, 59),
		"2000-02-29T00:00:00": of(2000, 2, 29, 0, 0, 0),
		"2009-08-07T06:05:04": of(2009, 8, 7, 6, 5, 4),
		"2010-10-10T10:10:10": of(2010, 10, 10, 10, 10, 10),
		"2019-09-09T09:09:09": of(2019, 9, 9, 9, 9, 9),
		"2399-12-31T23:59:59": of(2399, 12, 31, 23, 59, 59),
	} {
		if got := stamp.Text(c); got != want || len(got) != 19 {
			t.Errorf("Text(%v): %q, want %q", c, got, want)
		}
	}
	c, _ := stamp.Split(951782399)
	if got := stamp.Text(c); got != "2000-02-28T23:59:59" {
		t.Errorf("Text of the moment 951782399: %q", got)
	}
	for _, c := range []api.Clock{{}, of(1969, 12, 31, 23, 59, 59), of(2400, 1, 1, 0, 0, 0), of(2023, 2, 29, 0, 0, 0), of(2000, 2, 28, 24, 0, 0), of(2000, 2, 28, 0, 60, 0), of(2000, 2, 28, 0, 0, 60), of(2000, 2, 28, 0, 0, -1), {Date: api.Date{Year: 2000, Month: 2, Day: 28}, Weekday: 2}} {
		if got := stamp.Text(c); got != "" {
			t.Errorf("Text(%v): %q", c, got)
		}
	}
}

// P5.4: each moment's clock has that moment again, and they are in order, as their texts are.
func TestMomentsAndClocksAreOneToOne(t *testing.T) {
	l := moments()
	slices.Sort(l)
	l = slices.Compact(l)
	var ahead api.Clock
	said := ""
	for _, at := range l {
		c, e := stamp.Split(at)
		if e != api.OK || !stamp.May(c) {
			t.Fatalf("Split(%d): %v, %d", at, c, e)
		}
		if again, e := stamp.Join(c); again != at || e != api.OK {
			t.Fatalf("Join(%v): %d, %d; want %d", c, again, e, at)
		}
		if slices.Compare(numbers(ahead), numbers(c)) >= 0 || said >= stamp.Text(c) {
			t.Fatalf("the moment %d: %v, behind %v", at, c, ahead)
		}
		ahead, said = c, stamp.Text(c)
	}
}

// P5.4: the clocks of days that follow one another are in order, second by second, as their texts are.
func TestSecondsAreInOrder(t *testing.T) {
	for _, from := range []int64{0, 951696000, last - 2*86400} {
		var ahead api.Clock
		said := ""
		for at := from; at <= from+2*86400; at++ {
			c, e := stamp.Split(at)
			if e != api.OK || slices.Compare(numbers(ahead), numbers(c)) >= 0 || said >= stamp.Text(c) {
				t.Fatalf("the moment %d: %v, %d, behind %v", at, c, e, ahead)
			}
			if again, e := stamp.Join(c); again != at || e != api.OK {
				t.Fatalf("Join(%v): %d, %d; want %d", c, again, e, at)
			}
			ahead, said = c, stamp.Text(c)
		}
	}
}

// P5.4: each clock's moment has that clock again; one number changed, it is another moment's, or none's.
func TestClocksAndMomentsAreOneToOne(t *testing.T) {
	r := rand.New(rand.NewPCG(5, 3))
	changes := append(far()[:60], -366, -365, -60, -31, -24, -12, -7, -2, -1, 1, 2, 7, 12, 24, 31, 60, 365, 366)
	for range 3000 {
		year, month := 1970+r.IntN(430), 1+r.IntN(12)
		c := of(year, month, 1+r.IntN(time.Date(year, time.Month(month)+1, 0, 0, 0, 0, 0, time.UTC).Day()), r.IntN(24), r.IntN(60), r.IntN(60))
		at, e := stamp.Join(c)
		if again, f := stamp.Split(at); e != api.OK || f != api.OK || again != c {
			t.Fatalf("Join(%v): %d, %d; of that Split: %v, %d", c, at, e, again, f)
		}
		for i := range 7 {
			for _, by := range changes {
				d := c
				*fields(&d)[i] += int(by)
				other, e := stamp.Join(d)
				again, f := stamp.Split(other)
				if e == api.OK && (other == at || f != api.OK || again != d) || e != api.OK && (e != api.ErrArg || other != 0 || may(d)) {
					t.Fatalf("Join(%v): %d, %d; that of %v is %d", d, other, e, c, at)
				}
			}
		}
	}
}

// P1: each call ends and none panics, at all numbers; P5.1 to P5.4 of each.
func FuzzStamp(f *testing.F) {
	for _, n := range []int64{math.MinInt64, -1, 0, 59, 60, 86399, 86400, 951782399, 13569465599, 13569465600, math.MaxInt64} {
		f.Add(n, n, 2000, 2, 29, 0)
		f.Add(n, -n, 1970, 1, 1, 3)
		f.Add(int64(5), n, 2023, 2, int(n), 6)
	}
	f.Fuzz(func(t *testing.T, at, n int64, year, month, day, w int) {
		split(t, at)
		split(t, n)
		added(t, at, n)
		added(t, n, at)
		for _, c := range []api.Clock{
			{Date: api.Date{Year: year, Month: month, Day: day}, Hour: int(at), Minute: int(n), Second: w, Weekday: w},
			{Date: api.Date{Year: 1970 + year%430, Month: 1 + month%12, Day: 1 + day%31}, Hour: int(at % 24), Minute: int(n % 60), Second: w % 60, Weekday: w % 7},
			of(1970+year%430, 1+month%12, 1+day%31, int(at%24), int(n%60), w%60),
		} {
			asked(t, c)
		}
		c, e := stamp.Split(at)
		if e != api.OK {
			return
		}
		asked(t, c)
		if d, f := stamp.Split(n); f == api.OK && (slices.Compare(numbers(c), numbers(d)) != cmp.Compare(at, n) || stamp.Text(c) < stamp.Text(d) != (at < n)) {
			t.Errorf("%d: %v; %d: %v", at, c, n, d)
		}
	})
}
