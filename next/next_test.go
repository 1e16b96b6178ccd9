package next_test

import (
	"math"
	"math/rand/v2"
	"slices"
	"testing"
	"time"

	"ringer/api"
	"ringer/cron"
	"ringer/next"
	"ringer/stamp"
)

// newest is the last moment.
const newest = api.MaxTime - 1

// dates are all days' months, days and days of the week, as Go's own calendar shows them.
var dates = func() (l [][3]int) {
	for n := range int64(api.MaxDays) {
		u := time.Unix(n*86400, 0).UTC()
		l = append(l, [3]int{int(u.Month()), u.Day(), int(u.Weekday())})
	}
	return l
}()

// beyond are moments that may not be.
var beyond = []int64{-1, -2, -59, -60, -61, -86400, math.MinInt32, math.MinInt64, math.MinInt64 + 1, api.MaxTime, api.MaxTime + 1, api.MaxTime + 60, 2 * api.MaxTime, math.MaxInt64 - 1, math.MaxInt64}

// edges are the least and the greatest number of a kind.
func edges(kind int) (least, most int) {
	return []int{0, 0, 1, 1, 0}[kind], []int{59, 23, 31, 12, 6}[kind]
}

// whole are all bits of a kind.
func whole(kind int) (bits uint64) {
	least, most := edges(kind)
	for n := least; n <= most; n++ {
		bits |= 1 << n
	}
	return bits
}

// every allows each minute; no field of it is free.
func every() (x api.Expr) {
	for kind := range x {
		x[kind].Bits = whole(kind)
	}
	return x
}

// only is a field that allows n alone.
func only(n int) api.Field { return api.Field{Bits: 1 << n} }

// allows is whether a field allows n.
func allows(f api.Field, n int) bool { return f.Bits&(1<<n) != 0 }

// may is whether an expression may be.
func may(x api.Expr) bool {
	for kind, f := range x {
		if f.Bits == 0 || f.Bits|whole(kind) != whole(kind) {
			return false
		}
	}
	return true
}

// mayBe is whether a moment may be.
func mayBe(t int64) bool { return t >= 0 && t <= newest }

// dayFits is whether a month, a day and a day of the week fit, word for word as layer 7 has it.
func dayFits(x api.Expr, month, day, week int) bool {
	if !allows(x[3], month) {
		return false
	}
	if x[2].Star || x[4].Star {
		return allows(x[2], day) && allows(x[4], week)
	}
	return allows(x[2], day) || allows(x[4], week)
}

// fires is whether a moment is a firing, word for word as the document tells it.
func fires(x api.Expr, t int64) bool {
	u := time.Unix(t, 0).UTC()
	return u.Second() == 0 && allows(x[0], u.Minute()) && allows(x[1], u.Hour()) && dayFits(x, int(u.Month()), u.Day(), int(u.Weekday()))
}

// inDay are the seconds of a day that fits at which there are firings, rising.
func inDay(x api.Expr) (l []int64) {
	for m := range 1440 {
		if allows(x[0], m%60) && allows(x[1], m/60) {
			l = append(l, int64(m)*60)
		}
	}
	return l
}

// after is the first firing behind t; -1, if there is none.
func after(x api.Expr, t int64) int64 {
	seconds := inDay(x)
	for n := t / 86400; n < api.MaxDays; n++ {
		if d := dates[n]; !dayFits(x, d[0], d[1], d[2]) {
			continue
		}
		for _, s := range seconds {
			if n*86400+s > t {
				return n*86400 + s
			}
		}
	}
	return -1
}

// last is the last firing that is t, or ahead of it; -1, if there is none.
func last(x api.Expr, t int64) int64 {
	seconds := inDay(x)
	for n := t / 86400; n >= 0; n-- {
		if d := dates[n]; !dayFits(x, d[0], d[1], d[2]) {
			continue
		}
		for _, s := range slices.Backward(seconds) {
			if n*86400+s <= t {
				return n*86400 + s
			}
		}
	}
	return -1
}

// between are the firings behind from, up to to.
func between(x api.Expr, from, to int64) (l []int64) {
	if !may(x) || !mayBe(from) || !mayBe(to) {
		return nil
	}
	seconds := inDay(x)
	for n := from / 86400; n <= to/86400; n++ {
		if d := dates[n]; !dayFits(x, d[0], d[1], d[2]) {
			continue
		}
		for _, s := range seconds {
			if at := n*86400 + s; at > from && at <= to {
				l = append(l, at)
			}
		}
	}
	return l
}

// of is a text's expression, which there must be.
func of(t *testing.T, s string) api.Expr {
	t.Helper()
	x, e := cron.Parse(s)
	if e != api.OK {
		t.Fatalf("Parse(%q): %d", s, e)
	}
	return x
}

// at is the moment of these numbers.
func at(year, month, day, hour, minute, second int) int64 {
	return time.Date(year, time.Month(month), day, hour, minute, second, 0, time.UTC).Unix()
}

// when is a moment as a text.
func when(t int64) string { return time.Unix(t, 0).UTC().Format(time.DateTime) }

// says fails unless After and Last tell just this of an expression and a moment; -1 stands for ErrNone.
func says(t *testing.T, x api.Expr, moment, wantAfter, wantLast int64) {
	t.Helper()
	for _, r := range []struct {
		name string
		call func(api.Expr, int64) (int64, api.Errno)
		want int64
	}{{"After", next.After, wantAfter}, {"Last", next.Last, wantLast}} {
		got, e := r.call(x, moment)
		if r.want < 0 && (got != 0 || e != api.ErrNone) {
			t.Errorf("%s(%s, %s): %s, %d; want ErrNone", r.name, cron.Text(x), when(moment), when(got), e)
		}
		if r.want >= 0 && (got != r.want || e != api.OK) {
			t.Errorf("%s(%s, %s): %s, %d; want %s", r.name, cron.Text(x), when(moment), when(got), e, when(r.want))
		}
	}
}

// found fails unless After and Last tell of an expression and a moment what the document says, and what they tell holds P8.3.
func found(t *testing.T, x api.Expr, moments ...int64) {
	t.Helper()
	for _, moment := range moments {
		first, older := after(x, moment), last(x, moment)
		says(t, x, moment, first, older)
		if older >= 0 {
			if got, e := next.Last(x, older); got != older || e != api.OK || !fires(x, got) {
				t.Errorf("Last(%s, %s), of Last: %s, %d", cron.Text(x), when(older), when(got), e)
			}
			if n, e := next.Count(x, older, moment, 9); n != 0 || e != api.OK {
				t.Errorf("Count(%s, %s, %s, 9), from Last on: %d, %d", cron.Text(x), when(older), when(moment), n, e)
			}
		}
		if first < 0 {
			if n, e := next.Count(x, moment, newest, 1); n != 0 || e != api.OK {
				t.Errorf("Count(%s, %s, the end, 1): %d, %d", cron.Text(x), when(moment), n, e)
			}
			continue
		}
		if got, e := next.Last(x, first); got != first || e != api.OK || !fires(x, got) {
			t.Errorf("Last(%s, %s), of After: %s, %d", cron.Text(x), when(first), when(got), e)
		}
		if n, e := next.Count(x, moment, first-1, 9); n != 0 || e != api.OK {
			t.Errorf("Count(%s, %s, %s, 9), up to After: %d, %d", cron.Text(x), when(moment), when(first-1), n, e)
		}
	}
}

// collect are the moments that All goes over, most at most; all of them, if most is -1.
func collect(x api.Expr, from, to int64, most int) (l []int64) {
	for moment := range next.All(x, from, to) {
		if l = append(l, moment); len(l) == most {
			break
		}
	}
	return l
}

// gone fails unless All goes over just the firings behind from, up to to, and Count counts them.
func gone(t *testing.T, x api.Expr, from, to int64) []int64 {
	t.Helper()
	want := between(x, from, to)
	got := collect(x, from, to, -1)
	if !slices.Equal(got, want) {
		t.Fatalf("All(%s, %s, %s): %d firings, %.5v..; want %d, %.5v..", cron.Text(x), when(from), when(to), len(got), got, len(want), want)
	}
	if !may(x) || !mayBe(from) || !mayBe(to) {
		return got
	}
	n := len(want)
	for _, most := range []int{0, 1, 2, n - 1, n, n + 1, 2 * n, math.MaxInt32, math.MaxInt - 1, math.MaxInt} {
		if most < 0 {
			continue
		}
		if got, e := next.Count(x, from, to, most); got != min(n, most) || e != api.OK {
			t.Errorf("Count(%s, %s, %s, %d): %d, %d; there are %d", cron.Text(x), when(from), when(to), most, got, e, n)
		}
	}
	return got
}

// refused fails unless Count refuses so, and All goes over nothing, if x, from or to may not be.
func refused(t *testing.T, e api.Errno, x api.Expr, from, to int64, most int) {
	t.Helper()
	if n, f := next.Count(x, from, to, most); n != 0 || f != e {
		t.Errorf("Count(%v, %d, %d, %d): %d, %d; want %d", x, from, to, most, n, f, e)
	}
	// Where most alone is refused, All has nothing to refuse.
	if may(x) && mayBe(from) && mayBe(to) {
		return
	}
	if l := collect(x, from, to, 9); len(l) != 0 {
		t.Errorf("All(%v, %d, %d): %v", x, from, to, l)
	}
}

// refusedAt fails unless After and Last refuse so.
func refusedAt(t *testing.T, e api.Errno, x api.Expr, moment int64) {
	t.Helper()
	if at, f := next.After(x, moment); at != 0 || f != e {
		t.Errorf("After(%v, %d): %d, %d; want %d", x, moment, at, f, e)
	}
	if at, f := next.Last(x, moment); at != 0 || f != e {
		t.Errorf("Last(%v, %d): %d, %d; want %d", x, moment, at, f, e)
	}
}

// mayNot are expressions that may not be, in each of the five places.
func mayNot() []api.Expr {
	l := []api.Expr{{}}
	for kind := range 5 {
		least, most := edges(kind)
		x := every()
		x[kind].Star = true
		for _, bits := range []uint64{0, 1 << (most + 1), 1 << 63, whole(kind) | 1<<(most+1), whole(kind) | 1<<63, math.MaxUint64} {
			x[kind].Bits = bits
			l = append(l, x)
		}
		if least > 0 {
			x[kind].Bits = 1
			l = append(l, x)
			x[kind].Bits = whole(kind) | 1
			l = append(l, x)
		}
	}
	return l
}

// P8.1, P8.2: the chapter's examples.
func TestExamples(t *testing.T) {
	if got, e := next.After(of(t, "30 12 29 2 *"), at(2024, 2, 29, 12, 30, 0)); got != at(2028, 2, 29, 12, 30, 0) || e != api.OK {
		t.Errorf("After(30 12 29 2 *): %s, %d", when(got), e)
	}
	if got, e := next.After(of(t, "0 0 30 2 *"), 0); got != 0 || e != api.ErrNone {
		t.Errorf("After(0 0 30 2 *): %d, %d", got, e)
	}
	if got, e := next.Last(of(t, "0 0 1 1 *"), 0); got != 0 || e != api.OK {
		t.Errorf("Last(0 0 1 1 *): %d, %d", got, e)
	}
	if got, e := next.Last(of(t, "5 0 * * *"), 0); got != 0 || e != api.ErrNone {
		t.Errorf("Last(5 0 * * *): %d, %d", got, e)
	}
	for most, want := range map[int]int{99: 24, 10: 10} {
		if got, e := next.Count(of(t, "0 * * * *"), 0, 86400, most); got != want || e != api.OK {
			t.Errorf("Count(0 * * * *, 0, 86400, %d): %d, %d", most, got, e)
		}
	}
	want := []int64{300, 900, 1500}
	if got := slices.Collect(next.All(of(t, "5-59/10 * * * *"), 0, 1500)); !slices.Equal(got, want) {
		t.Errorf("All(5-59/10 * * * *, 0, 1500): %v", got)
	}
}

// P8.1, P8.2: expressions that may not be, in each of the five places; ErrArg, whatever the moments.
func TestExprMayNot(t *testing.T) {
	for _, x := range mayNot() {
		if may(x) {
			t.Fatal(x)
		}
		moments := append([]int64{0, 1, 59, 60, 86399, at(2024, 2, 29, 12, 30, 0), newest}, beyond...)
		for _, moment := range moments {
			refusedAt(t, api.ErrArg, x, moment)
			for _, other := range []int64{0, 86400, newest, -1, api.MaxTime, math.MinInt64, math.MaxInt64} {
				for _, most := range []int{0, 1, -1, math.MinInt, math.MaxInt} {
					refused(t, api.ErrArg, x, moment, other, most)
					refused(t, api.ErrArg, x, other, moment, most)
				}
			}
		}
	}
}

// P8.1, P8.2: moments that may not be: ErrRange, also with most below 0; most below 0 alone: ErrArg.
func TestMomentMayNot(t *testing.T) {
	for _, s := range []string{"* * * * *", "0 0 1 1 *", "59 23 31 12 *", "0 0 30 2 *"} {
		x := of(t, s)
		for _, moment := range beyond {
			refusedAt(t, api.ErrRange, x, moment)
			for _, other := range append([]int64{0, 1, 86400, newest}, beyond...) {
				for _, most := range []int{0, 1, 5, -1, -2, math.MinInt, math.MaxInt} {
					refused(t, api.ErrRange, x, moment, other, most)
					refused(t, api.ErrRange, x, other, moment, most)
				}
			}
		}
		for _, most := range []int{-1, -2, -60, math.MinInt32, math.MinInt + 1, math.MinInt} {
			refused(t, api.ErrArg, x, 0, 86400, most)
			refused(t, api.ErrArg, x, 0, 0, most)
			refused(t, api.ErrArg, x, 86400, 0, most)
			refused(t, api.ErrArg, x, 0, newest, most)
			refused(t, api.ErrArg, x, newest, newest, most)
		}
	}
}

// P8.1: 0, the last moment, and what lies beside them.
func TestFirstAndLastMoment(t *testing.T) {
	end := at(2399, 12, 31, 23, 59, 0)
	x := of(t, "* * * * *")
	says(t, x, 0, 60, 0)
	says(t, x, 1, 60, 0)
	says(t, x, 59, 60, 0)
	says(t, x, 60, 120, 60)
	says(t, x, newest, -1, end)
	says(t, x, end, -1, end)
	says(t, x, end-1, end, end-60)
	says(t, x, end-60, end, end-60)
	says(t, x, end-61, end-60, end-120)
	says(t, of(t, "0 0 1 1 *"), 0, at(1971, 1, 1, 0, 0, 0), 0)
	says(t, of(t, "0 0 1 1 *"), newest, -1, at(2399, 1, 1, 0, 0, 0))
	says(t, of(t, "59 23 31 12 *"), 0, at(1970, 12, 31, 23, 59, 0), -1)
	says(t, of(t, "59 23 31 12 *"), newest, -1, end)
	says(t, of(t, "1 0 1 1 *"), 0, 60, -1)
	says(t, of(t, "1 0 1 1 *"), 59, 60, -1)
	says(t, of(t, "1 0 1 1 *"), 60, at(1971, 1, 1, 0, 1, 0), 60)
}

// P8.1: a moment that is a firing, a second ahead of one, a second behind, within its minute, and the minute's end.
func TestBesideAFiring(t *testing.T) {
	for _, s := range []string{"* * * * *", "*/7 * * * *", "30 12 29 2 *", "0 0 * * *", "59 23 * * *", "0 0 1 1 *", "59 23 31 12 *", "15 6 13 * fri", "0 12 * * 0", "0-59 0-23 1-31 1-12 0-6"} {
		x := of(t, s)
		firing, e := next.After(x, at(2024, 1, 15, 9, 59, 59))
		if e != api.OK || !fires(x, firing) {
			t.Fatal(s, when(firing), e)
		}
		behind, ahead := after(x, firing), last(x, firing-1)
		says(t, x, firing-1, firing, ahead)
		for _, more := range []int64{0, 1, 2, 30, 58, 59} {
			says(t, x, firing+more, behind, firing)
		}
		found(t, x, firing-61, firing-60, firing-59, firing-2, firing-1, firing, firing+1, firing+30, firing+59, firing+60, firing+61, firing+3600, firing+86400)
	}
}

// P8.1: After at the end of an hour, a day, a month, a year, and of all; Last at their beginnings.
func TestEnds(t *testing.T) {
	for _, r := range []struct{ end, begin int64 }{
		{at(2024, 5, 6, 7, 59, 59), at(2024, 5, 6, 8, 0, 0)},
		{at(2024, 5, 6, 23, 59, 59), at(2024, 5, 7, 0, 0, 0)},
		{at(2024, 4, 30, 23, 59, 59), at(2024, 5, 1, 0, 0, 0)},
		{at(2024, 1, 31, 23, 59, 59), at(2024, 2, 1, 0, 0, 0)},
		{at(2024, 2, 29, 23, 59, 59), at(2024, 3, 1, 0, 0, 0)},
		{at(2023, 2, 28, 23, 59, 59), at(2023, 3, 1, 0, 0, 0)},
		{at(2100, 2, 28, 23, 59, 59), at(2100, 3, 1, 0, 0, 0)},
		{at(2000, 2, 29, 23, 59, 59), at(2000, 3, 1, 0, 0, 0)},
		{at(2023, 12, 31, 23, 59, 59), at(2024, 1, 1, 0, 0, 0)},
		{at(1999, 12, 31, 23, 59, 59), at(2000, 1, 1, 0, 0, 0)},
		{at(1970, 12, 31, 23, 59, 59), at(1971, 1, 1, 0, 0, 0)},
	} {
		if r.end+1 != r.begin {
			t.Fatal(r)
		}
		says(t, of(t, "* * * * *"), r.end, r.begin, r.begin-60)
		says(t, of(t, "* * * * *"), r.begin, r.begin+60, r.begin)
		says(t, of(t, "0 * * * *"), r.end, r.begin, r.begin-3600)
		says(t, of(t, "59 * * * *"), r.begin, r.begin+3540, r.begin-60)
		for _, s := range []string{"59 23 * * *", "0 0 * * *", "0 8 * * *", "0 0 1 * *", "59 23 31 * *", "0 0 28-31 * *", "0 0 1 1 *", "59 23 31 12 *", "0 0 29 2 *", "30 7 6 5 *", "0 12 * 1,12 *", "0 0 * 3 *", "0 0 * 2 *", "0 0 * * 1"} {
			found(t, of(t, s), r.end-60, r.end-59, r.end-1, r.end, r.begin, r.begin+1, r.begin+59, r.begin+60, r.begin+3599, r.begin+3600)
		}
	}
	end := newest
	for _, s := range []string{"* * * * *", "0 * * * *", "59 23 * * *", "59 23 31 12 *", "0 0 31 12 *", "0 0 1 1 *", "0 0 29 2 *", "* * * * 5", "* * * * 4"} {
		x := of(t, s)
		says(t, x, int64(end), -1, last(x, int64(end)))
		for _, back := range []int64{1, 58, 59, 60, 61, 3599, 3600, 86399, 86400, 31 * 86400, 365 * 86400, 4 * 366 * 86400} {
			found(t, x, int64(end)-back, back-1, back)
		}
	}
}

// P8.1: 29 February in years that are leap, and in such as are not.
func TestLeapDay(t *testing.T) {
	x := of(t, "30 12 29 2 *")
	day := func(year int) int64 { return at(year, 2, 29, 12, 30, 0) }
	says(t, x, 0, day(1972), -1)
	says(t, x, day(1972)-1, day(1972), -1)
	says(t, x, day(1972), day(1976), day(1972))
	says(t, x, at(1999, 12, 31, 23, 59, 59), day(2000), day(1996))
	says(t, x, day(1996), day(2000), day(1996))
	says(t, x, day(2000), day(2004), day(2000))
	says(t, x, at(2001, 2, 28, 12, 30, 0), day(2004), day(2000))
	says(t, x, day(2096), day(2104), day(2096))
	says(t, x, at(2100, 2, 28, 23, 59, 59), day(2104), day(2096))
	says(t, x, at(2100, 3, 1, 0, 0, 0), day(2104), day(2096))
	says(t, x, day(2196), day(2204), day(2196))
	says(t, x, day(2296), day(2304), day(2296))
	says(t, x, newest, -1, day(2396))
	says(t, x, day(2396)-1, day(2396), day(2392))
	says(t, x, day(2396), -1, day(2396))
	l := gone(t, x, 0, newest)
	if len(l) != 107-3 {
		t.Errorf("%d leap days", len(l))
	}
	for _, firing := range l {
		if u := time.Unix(firing, 0).UTC(); u.Month() != 2 || u.Day() != 29 {
			t.Error(u)
		}
	}
}

// P8.1, P8.2: days that no month has that is allowed: there is no firing, wherever one looks.
func TestNoSuchDay(t *testing.T) {
	l := []api.Expr{every()}
	l[0][api.FdDay], l[0][api.FdMonth] = api.Field{Bits: 3 << 30, Star: true}, only(2)
	for _, s := range []string{"0 0 30 2 *", "0 0 31 2 *", "* * 30,31 2 *", "0 0 31 4 *", "0 0 31 6 *", "0 0 31 9 *", "0 0 31 11 *", "* * 31 2,4,6,9,11 *", "0 0 30 2 */2"} {
		l = append(l, of(t, s))
	}
	for _, x := range l {
		for _, moment := range []int64{0, 1, at(2024, 1, 31, 0, 0, 0), at(2024, 2, 29, 23, 59, 59), at(2024, 3, 1, 0, 0, 0), at(2399, 2, 28, 0, 0, 0), newest} {
			says(t, x, moment, -1, -1)
		}
		if l := gone(t, x, 0, newest); len(l) != 0 {
			t.Errorf("All(%s): %d", cron.Text(x), len(l))
		}
	}
	// A day of the week that is allowed, too, and not free, lets them fire; so does one month more.
	says(t, of(t, "0 0 30 2 mon"), at(2024, 2, 1, 0, 0, 0), at(2024, 2, 5, 0, 0, 0), at(2023, 2, 27, 0, 0, 0))
	says(t, of(t, "0 0 31 4-6 *"), at(2024, 4, 1, 0, 0, 0), at(2024, 5, 31, 0, 0, 0), at(2023, 5, 31, 0, 0, 0))
	says(t, of(t, "0 0 30 2-4 *"), at(2024, 2, 1, 0, 0, 0), at(2024, 3, 30, 0, 0, 0), at(2023, 4, 30, 0, 0, 0))
	says(t, of(t, "0 0 31 * *"), at(2024, 3, 31, 0, 0, 0), at(2024, 5, 31, 0, 0, 0), at(2024, 3, 31, 0, 0, 0))
	says(t, of(t, "0 0 31 * *"), at(2024, 8, 30, 0, 0, 0), at(2024, 8, 31, 0, 0, 0), at(2024, 7, 31, 0, 0, 0))
	says(t, of(t, "0 0 30 * *"), at(2023, 2, 1, 0, 0, 0), at(2023, 3, 30, 0, 0, 0), at(2023, 1, 30, 0, 0, 0))
	says(t, of(t, "0 0 29 * *"), at(2023, 2, 1, 0, 0, 0), at(2023, 3, 29, 0, 0, 0), at(2023, 1, 29, 0, 0, 0))
}

// P8.1: firings many years apart, as 29 February on a Monday, where a field is free; every Monday of February, too, where none is.
func TestYearsApart(t *testing.T) {
	both := of(t, "0 0 29 2 mon")
	both[api.FdWeek].Star = true
	other := of(t, "0 0 */28 2 mon") // the 1st, and the 29th
	other[api.FdDay].Bits &^= 1 << 1
	for _, x := range []api.Expr{both, other} {
		mondays := []int{1988, 2016, 2044, 2072, 2112, 2140, 2168, 2196, 2208, 2236, 2264, 2292, 2304, 2332, 2360, 2388}
		at := func(i int) int64 {
			if i < 0 || i == len(mondays) {
				return -1
			}
			return at(mondays[i], 2, 29, 0, 0, 0)
		}
		says(t, x, 0, at(0), -1)
		says(t, x, newest, -1, at(len(mondays)-1))
		for i := range mondays {
			says(t, x, at(i)-1, at(i), at(i-1))
			says(t, x, at(i), at(i+1), at(i))
			says(t, x, at(i)+86400, at(i+1), at(i))
		}
		if l := gone(t, x, 0, newest); len(l) != len(mondays) {
			t.Errorf("%d firings", len(l))
		}
	}
	either := of(t, "0 0 29 2 mon")
	says(t, either, at(2024, 2, 27, 0, 0, 0), at(2024, 2, 29, 0, 0, 0), at(2024, 2, 26, 0, 0, 0))
	says(t, either, at(2024, 2, 29, 0, 0, 0), at(2025, 2, 3, 0, 0, 0), at(2024, 2, 29, 0, 0, 0))
	gone(t, either, 0, newest)
	sunday := of(t, "0 0 29 2 */7")
	says(t, sunday, at(2024, 1, 1, 0, 0, 0), at(2032, 2, 29, 0, 0, 0), at(2004, 2, 29, 0, 0, 0))
	says(t, sunday, at(2088, 2, 29, 0, 0, 0), at(2128, 2, 29, 0, 0, 0), at(2088, 2, 29, 0, 0, 0))
	found(t, sunday, 0, at(2096, 2, 29, 0, 0, 0), at(2100, 2, 28, 0, 0, 0), at(2100, 3, 1, 0, 0, 0), newest)
}

// P8.1, P8.2: the day's rule of layer 7, FdDay and FdWeek each free or not.
func TestDayRule(t *testing.T) {
	september := func(days ...int) (l []int64) {
		for _, d := range days {
			l = append(l, at(2024, 9, d, 0, 0, 0))
		}
		return l
	}
	from, to := at(2024, 8, 31, 23, 59, 59), at(2024, 9, 30, 23, 59, 59)
	for free, want := range map[[2]bool][]int64{
		{false, false}: september(6, 12, 13, 20, 27), // the 12th, the 13th, and Fridays
		{true, false}:  september(13),
		{false, true}:  september(13),
		{true, true}:   september(13),
	} {
		x := of(t, "0 0 12,13 9 fri")
		x[api.FdDay].Star, x[api.FdWeek].Star = free[0], free[1]
		if got := collect(x, from, to, -1); !slices.Equal(got, want) {
			t.Errorf("%v: %v, want %v", free, got, want)
		}
		// That other fields are free changes nothing.
		for mask := range 8 {
			x[api.FdMinute].Star, x[api.FdHour].Star, x[api.FdMonth].Star = mask&1 != 0, mask&2 != 0, mask&4 != 0
			if got := gone(t, x, from, to); !slices.Equal(got, want) {
				t.Errorf("%v, %d: %v, want %v", free, mask, got, want)
			}
		}
		says(t, x, from, want[0], last(x, from))
		says(t, x, to, after(x, to), want[len(want)-1])
		gone(t, x, 0, newest)
	}
	for _, s := range []string{"0 0 13 * *", "0 0 * * fri", "0 0 */2 * mon", "0 0 1-31 * fri", "0 0 13 * 0-6", "0 0 13 * */5", "0 0 1-31/2 * fri", "0 12 1-7 * */6"} {
		x := of(t, s)
		gone(t, x, from-400*86400, to+400*86400)
		found(t, x, from, to, from+86400*12, from+86400*13)
	}
}

// P8.1: 7 is 0, Sunday, as a day of the week; each day of the week comes each seven days.
func TestWeek(t *testing.T) {
	sunday := at(2024, 9, 15, 0, 0, 0)
	for _, s := range []string{"0 0 * * 0", "0 0 * * 7", "0 0 * * sun", "@weekly", "0 0 * * 0,7"} {
		x := of(t, s)
		says(t, x, sunday-1, sunday, sunday-7*86400)
		says(t, x, sunday, sunday+7*86400, sunday)
		gone(t, x, sunday-40*86400, sunday+40*86400)
	}
	says(t, of(t, "0 0 * * 5-7"), sunday, sunday+5*86400, sunday)
	for week := range 7 {
		x := every()
		x[api.FdMinute], x[api.FdHour], x[api.FdWeek] = only(0), only(0), api.Field{Bits: 1 << week, Star: true}
		day := sunday + int64(week)*86400
		says(t, x, day-1, day, day-7*86400)
		says(t, x, day, day+7*86400, day)
		// 1970 began on a Thursday.
		if first := int64((week+3)%7) * 86400; first > 0 {
			says(t, x, 0, first, -1)
		} else {
			says(t, x, 0, 7*86400, 0)
		}
	}
}

// P8.1, P8.2: every minute, and one minute of one day alone.
func TestEveryAndOne(t *testing.T) {
	for _, x := range []api.Expr{every(), of(t, "* * * * *")} {
		from := at(2024, 2, 28, 22, 58, 30)
		l := gone(t, x, from, from+2*86400)
		if len(l) != 2880 || l[0] != from+30 {
			t.Error(len(l), l[0])
		}
		for i, firing := range l[1:] {
			if firing != l[i]+60 {
				t.Fatal(i, firing)
			}
			says(t, x, l[i], firing, l[i])
			says(t, x, l[i]+59, firing, l[i])
		}
		if n, e := next.Count(x, 0, 366*86400, math.MaxInt); n != 366*1440 || e != api.OK {
			t.Errorf("Count of 366 days: %d, %d", n, e)
		}
	}
	if n, e := next.Count(of(t, "* * * * *"), 0, newest, math.MaxInt); n != api.MaxTime/60-1 || e != api.OK {
		t.Errorf("Count of all minutes: %d, %d", n, e)
	}
	for _, s := range []string{"0 0 15 6 *", "59 23 15 6 *", "17 5 15 6 *", "0 0 1 1 *", "59 23 31 12 *", "0 23 31 1 *", "59 0 1 12 *"} {
		x := of(t, s)
		l := gone(t, x, 0, newest)
		for _, firing := range []int64{l[0], l[1], l[54], l[200], l[len(l)-1]} {
			found(t, x, firing-1, firing, firing+1, min(firing+60, newest))
			for _, r := range []struct {
				from, to int64
				n        int
			}{{firing - 60, firing - 1, 0}, {firing - 60, firing, 1}, {firing - 1, firing, 1}, {firing, firing, 0}, {firing, firing + 59, 0}, {firing - 1, firing + 59, 1}} {
				if l := gone(t, x, r.from, r.to); len(l) != r.n || r.n == 1 && l[0] != firing {
					t.Errorf("All(%s, %s, %s): %v", s, when(r.from), when(r.to), l)
				}
			}
		}
		// Ahead of the first one, and behind the last one, there is none.
		says(t, x, l[len(l)-1], -1, l[len(l)-1])
		says(t, x, l[len(l)-1]-1, l[len(l)-1], l[len(l)-2])
		if first := last(x, l[0]-1); first < 0 {
			says(t, x, l[0]-1, l[0], -1)
			says(t, x, 0, l[0], -1)
		}
	}
}

// P8.1, P8.2: each minute, hour, month alone, all of them at a day's edges.
func TestEach(t *testing.T) {
	from := at(2024, 2, 28, 0, 0, 0)
	for minute := range 60 {
		for hour := range 24 {
			x := every()
			x[api.FdMinute], x[api.FdHour] = only(minute), only(hour)
			firing := from + int64(hour)*3600 + int64(minute)*60
			says(t, x, firing-1, firing, firing-86400)
			says(t, x, firing, firing+86400, firing)
			if l := collect(x, firing-1, firing+86400, -1); !slices.Equal(l, []int64{firing, firing + 86400}) {
				t.Error(minute, hour, l)
			}
		}
	}
	for month := 1; month <= 12; month++ {
		for day := 1; day <= 31; day++ {
			x := every()
			x[api.FdMinute], x[api.FdHour], x[api.FdDay], x[api.FdMonth], x[api.FdWeek] = only(month), only(day%24), only(day), only(month), api.Field{Bits: whole(4), Star: true}
			found(t, x, 0, at(2023, month, 1, 0, 0, 0)-1, at(2023, month, 1, 0, 0, 0), at(2024, month, 28, 0, 0, 0), at(2024, month+1, 1, 0, 0, 0)-1, at(2024, month+1, 1, 0, 0, 0), newest)
		}
	}
}

// P8.2: from is not gone over, to is; from that is to, or behind it.
func TestAllEdges(t *testing.T) {
	for _, s := range []string{"* * * * *", "*/15 * * * *", "0 0 * * *", "59 23 * * *", "0 0 1 * *", "30 12 29 2 *"} {
		x := of(t, s)
		l := collect(x, at(2024, 2, 1, 0, 0, 0), newest, 5)
		if len(l) != 5 {
			t.Fatal(s, l)
		}
		for i := range l {
			for j := range l {
				want := []int64(nil)
				if i < j {
					want = l[i+1 : j+1]
				}
				if got := gone(t, x, l[i], l[j]); !slices.Equal(got, want) {
					t.Errorf("All(%s, %s, %s): %v, want %v", s, when(l[i]), when(l[j]), got, want)
				}
				gone(t, x, l[i]-1, l[j])
				gone(t, x, l[i], l[j]-1)
				gone(t, x, l[i]-1, l[j]-1)
				gone(t, x, l[i]+1, l[j]+1)
				gone(t, x, l[i]+59, l[j]+59)
			}
			for _, more := range []int64{1, 60, 86400, 400 * 86400} {
				if got := gone(t, x, l[i]+more, l[i]); len(got) != 0 {
					t.Error(s, got)
				}
				gone(t, x, l[i]-more, l[i])
			}
		}
		for _, moment := range []int64{0, 59, 60, 86399, 86400, newest - 59, newest} {
			if got := gone(t, x, moment, moment); len(got) != 0 {
				t.Error(s, got)
			}
			if got := gone(t, x, newest, moment); len(got) != 0 {
				t.Error(s, got)
			}
			if got := gone(t, x, moment, 0); len(got) != 0 {
				t.Error(s, got)
			}
			gone(t, x, newest-10*86400, newest-moment%86400)
			gone(t, x, moment%86400, 10*86400)
		}
	}
	// The beginning of all is not behind any moment.
	if l := gone(t, of(t, "0 0 1 1 *"), 0, 86400); len(l) != 0 {
		t.Error(l)
	}
	if l := gone(t, of(t, "59 23 31 12 *"), newest-60, newest); !slices.Equal(l, []int64{newest - 59}) {
		t.Error(l)
	}
}

// P8.2: All may be left, after none, one, some and all, and gone over again, also within itself.
func TestAllLeft(t *testing.T) {
	for _, r := range []struct {
		s        string
		from, to int64
	}{
		{"*/30 * * * *", at(2024, 2, 28, 22, 15, 0), at(2024, 3, 1, 1, 30, 0)},
		{"* * * * *", 0, 3600},
		{"0 0 29 2 *", 0, newest},
		{"59 23 * * *", newest - 9*86400, newest},
		{"0 0 30 2 *", 0, newest},
		{"0 0 1 1 *", 0, 0},
	} {
		x := of(t, r.s)
		want := between(x, r.from, r.to)
		all := next.All(x, r.from, r.to)
		for n := range len(want) + 2 {
			var got []int64
			asked := 0
			all(func(firing int64) bool {
				if asked++; asked > n {
					return false
				}
				got = append(got, firing)
				return true
			})
			if !slices.Equal(got, want[:min(n, len(want))]) || asked != min(n+1, len(want)) {
				t.Errorf("All(%s), left after %d: asked %d times, %v", r.s, n, asked, got)
			}
			if again := slices.Collect(all); !slices.Equal(again, want) {
				t.Errorf("All(%s), once more: %v", r.s, again)
			}
		}
		if len(want) > 200 {
			continue
		}
		i := 0
		for firing := range all {
			if firing != want[i] {
				t.Errorf("All(%s), the firing %d: %s", r.s, i, when(firing))
			}
			if within := slices.Collect(all); !slices.Equal(within, want) {
				t.Errorf("All(%s), within itself: %v", r.s, within)
			}
			i++
		}
	}
	// Where nothing is told, it is an iterator all the same.
	for _, x := range append(mayNot(), every()) {
		for _, moment := range beyond {
			for _, all := range []func(func(int64) bool){next.All(x, moment, 60), next.All(x, 0, moment), next.All(x, moment, moment)} {
				if all == nil {
					t.Fatal(x, moment)
				}
				all(func(firing int64) bool {
					t.Errorf("All(%v, %d): %d", x, moment, firing)
					return true
				})
			}
		}
	}
}

// P8.2: Count with as many as there are, one more, one less, none, and beyond.
func TestCount(t *testing.T) {
	for _, r := range []struct {
		s        string
		from, to int64
		n        int
	}{
		{"0 * * * *", 0, 86400, 24},
		{"0 * * * *", 0, 86399, 23},
		{"0 * * * *", 1, 86400, 24},
		{"0 * * * *", 3599, 3600, 1},
		{"* * * * *", 0, 60, 1},
		{"* * * * *", 0, 59, 0},
		{"* * * * *", 0, 0, 0},
		{"* * * * *", 60, 60, 0},
		{"* * * * *", 120, 60, 0},
		{"* * * * *", newest, 0, 0},
		{"0 0 * * *", 0, newest, api.MaxDays - 1},
		{"1 0 * * *", 0, newest, api.MaxDays},
		{"0 0 1 1 *", 0, newest, 429},
		{"0 0 1 * *", 0, newest, 430*12 - 1},
		{"0 0 31 * *", 0, newest, 430 * 7},
		{"0 0 30 * *", 0, newest, 430 * 11},
		{"0 0 29 2 *", 0, newest, 104},
		{"0 0 30 2 *", 0, newest, 0},
		{"0 0 31 2,4,6,9,11 *", 0, newest, 0},
	} {
		x := of(t, r.s)
		for _, most := range []int{0, 1, r.n - 1, r.n, r.n + 1, math.MaxInt} {
			if most < 0 {
				continue
			}
			if n, e := next.Count(x, r.from, r.to, most); n != min(most, r.n) || e != api.OK {
				t.Errorf("Count(%s, %d, %d, %d): %d, %d; there are %d", r.s, r.from, r.to, most, n, e, r.n)
			}
		}
		if n := len(collect(x, r.from, r.to, -1)); n != r.n {
			t.Errorf("All(%s, %d, %d): %d; want %d", r.s, r.from, r.to, n, r.n)
		}
	}
}

// P8.1, P8.2: each second of some hours, asked whether it is a firing.
func TestSeconds(t *testing.T) {
	for _, s := range []string{"* * * * *", "*/7 * * * *", "0,59 0,23 * * *", "30 0 29 2 *", "0 0 1 3 *", "* * 29 2 *", "59 23 28,29 * *", "0 0 * * 4", "5-9 22-23 * 2 thu"} {
		x := of(t, s)
		for _, from := range []int64{at(2024, 2, 28, 22, 0, 0), at(2024, 2, 29, 22, 0, 0), at(2023, 2, 28, 22, 0, 0), at(2024, 12, 31, 22, 0, 0)} {
			var want []int64
			for moment := from + 1; moment <= from+4*3600; moment++ {
				if fires(x, moment) {
					want = append(want, moment)
				}
			}
			if got := collect(x, from, from+4*3600, -1); !slices.Equal(got, want) {
				t.Errorf("All(%s, %s): %v, want %v", s, when(from), got, want)
			}
			older := last(x, from)
			for moment, i := from, 0; moment < from+4*3600 && i < len(want); moment++ {
				if moment == want[i] {
					older, i = moment, i+1
				}
				if i < len(want) {
					says(t, x, moment, want[i], older)
				}
			}
		}
	}
}

// P8.3: what After, Last and All tell is told by layer 7's clocks, too.
func TestFitsOfCron(t *testing.T) {
	for _, s := range []string{"*/40 */9 * * *", "0 0 13 * fri", "0 0 */2 * mon", "15 6 30,31 4-6 7", "59 23 31 * *", "0 12 1-7 feb,dec sun"} {
		x := of(t, s)
		from := at(2024, 1, 1, 0, 0, 0)
		i, l := 0, collect(x, from, from+366*86400, -1)
		for moment := from + 60; moment <= from+366*86400; moment += 60 {
			c, e := stamp.Split(moment)
			if e != api.OK {
				t.Fatal(e)
			}
			told := i < len(l) && l[i] == moment
			if cron.Fits(x, c) != told {
				t.Fatalf("%s at %s: told %v", s, when(moment), told)
			}
			if told {
				i++
			}
		}
		if i != len(l) {
			t.Errorf("All(%s): %d of %d", s, i, len(l))
		}
	}
}

// some is an expression by chance that may be; its fields may be free.
func some(r *rand.Rand) (x api.Expr) {
	for kind := range x {
		for x[kind].Bits == 0 {
			x[kind].Bits = whole(kind)
			for range r.IntN(6) {
				x[kind].Bits &= r.Uint64()
			}
		}
		x[kind].Star = r.IntN(2) == 0
	}
	return x
}

// P8.1, P8.2, P8.3: expressions by chance, at moments by chance, and at what is told of these.
func TestMany(t *testing.T) {
	r := rand.New(rand.NewPCG(8, 1))
	for range 6000 {
		x := some(r)
		moment := r.Int64N(api.MaxTime)
		if r.IntN(4) == 0 {
			moment -= moment % []int64{60, 3600, 86400}[r.IntN(3)]
		}
		found(t, x, moment)
		if firing := after(x, moment); firing >= 0 {
			found(t, x, firing-1, firing, min(firing+r.Int64N(120), newest))
		}
		to := min(moment+r.Int64N(3*86400), newest)
		if r.IntN(8) == 0 {
			to = min(moment+r.Int64N(200*86400), newest)
		}
		l := gone(t, x, moment, to)
		// A time cut in two is both its parts, one behind the other.
		cut := moment + r.Int64N(to-moment+1)
		if parts := append(collect(x, moment, cut, -1), collect(x, cut, to, -1)...); !slices.Equal(parts, l) {
			t.Errorf("All(%s, %s, %s), cut at %s: %v, want %v", cron.Text(x), when(moment), when(to), when(cut), parts, l)
		}
		// After, again and again, goes over the same.
		for at := moment; len(l) > 0 && len(l) < 50; l = l[1:] {
			got, e := next.After(x, at)
			if got != l[0] || e != api.OK {
				t.Errorf("After(%s, %s): %s, %d; want %s", cron.Text(x), when(at), when(got), e, when(l[0]))
			}
			at = got
		}
	}
}

// P8.1: what is handed in is not changed, and what was told once is told again.
func TestTwice(t *testing.T) {
	x := of(t, "*/7 5-9 * * mon")
	own := x
	moment := at(2024, 9, 13, 5, 30, 0)
	all := next.All(x, moment, moment+86400*9)
	want := slices.Collect(all)
	x[api.FdMinute] = only(3)
	if got := slices.Collect(all); len(got) == 0 || !slices.Equal(got, want) {
		t.Errorf("All of an expression that is another one now: %v, want %v", got, want)
	}
	for range 3 {
		found(t, own, moment, moment+1)
	}
}

// P1: each call ends and none panics, at all arguments; P8.1 to P8.3 of each.
func FuzzNext(f *testing.F) {
	for i, n := range []uint64{0, 1, 2, 31, 977, math.MaxUint64, 1 << 63} {
		f.Add(n, n>>1, n<<1, n, n, byte(i*37), int64(i)*86399, int64(i)*86400*30, i)
	}
	f.Add(uint64(1), uint64(1), uint64(1)<<29, uint64(4), uint64(2), byte(255), int64(0), int64(newest), math.MaxInt)
	f.Add(uint64(1), uint64(1), uint64(1)<<30, uint64(4), uint64(2), byte(255), int64(newest), int64(newest), math.MinInt)
	f.Add(uint64(1), uint64(1), uint64(2), uint64(2), uint64(1), byte(16), int64(math.MinInt64), int64(math.MaxInt64), -1)
	f.Fuzz(func(t *testing.T, minute, hour, day, month, week uint64, stars byte, from, to int64, most int) {
		x := api.Expr{{Bits: minute}, {Bits: hour}, {Bits: day}, {Bits: month}, {Bits: week}}
		for kind := range x {
			x[kind].Star = stars&(1<<kind) != 0
		}
		near := x
		for kind := range near {
			least, most := edges(kind)
			near[kind].Bits = near[kind].Bits&whole(kind) | 1<<(least+int(stars)%(most-least+1))
		}
		for _, x := range []api.Expr{x, near} {
			switch {
			case !may(x):
				refusedAt(t, api.ErrArg, x, from)
				refused(t, api.ErrArg, x, from, to, most)
			case !mayBe(from):
				refusedAt(t, api.ErrRange, x, from)
				refused(t, api.ErrRange, x, from, to, most)
			case !mayBe(to):
				refused(t, api.ErrRange, x, from, to, most)
			case most < 0:
				refused(t, api.ErrArg, x, from, from, most)
			default:
				found(t, x, from, to)
				gone(t, x, from, min(to, from+40*86400))
			}
		}
	})
}
