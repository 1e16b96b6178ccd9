package cron_test

import (
	"math"
	"math/bits"
	"math/rand/v2"
	"slices"
	"strconv"
	"strings"
	"testing"
	"time"

	"ringer/api"
	"ringer/cron"
	"ringer/field"
	"ringer/stamp"
)

// kinds are all fields' kinds, in their order in a text.
var kinds = []int{api.FdMinute, api.FdHour, api.FdDay, api.FdMonth, api.FdWeek}

// names are the seven names, with what each stands for.
var names = map[string]string{
	"@hourly":   "0 * * * *",
	"@daily":    "0 0 * * *",
	"@midnight": "0 0 * * *",
	"@weekly":   "0 0 * * 0",
	"@monthly":  "0 0 1 * *",
	"@yearly":   "0 0 1 1 *",
	"@annually": "0 0 1 1 *",
}

// none is an expression of which no field allows anything.
var none api.Expr

// edges are the least and the greatest number of a kind.
func edges(kind int) (least, most int) {
	return []int{0, 0, 1, 1, 0}[kind], []int{59, 23, 31, 12, 6}[kind]
}

// all is the field of a kind that allows all.
func all(kind int, star bool) api.Field {
	least, most := edges(kind)
	f := api.Field{Star: star}
	for n := least; n <= most; n++ {
		f.Bits |= 1 << n
	}
	return f
}

// every allows each minute; no field of it is free.
func every() (x api.Expr) {
	for _, kind := range kinds {
		x[kind] = all(kind, false)
	}
	return x
}

// only is a field that allows n alone.
func only(n int) api.Field { return api.Field{Bits: 1 << n} }

// allows is whether a field allows n.
func allows(f api.Field, n int) bool { return n >= 0 && n <= 63 && f.Bits&(1<<n) != 0 }

// parsed is a text's expression, word for word as the document tells it; a field's text is layer 6's.
func parsed(s string) (api.Expr, api.Errno) {
	if len(s) > 400 {
		return none, api.ErrLong
	}
	if s != "" && s[0] == '@' {
		own, ok := names[s]
		if !ok {
			return none, api.ErrFields
		}
		s = own
	}
	parts := []string{""}
	for i := range len(s) {
		if s[i] == ' ' {
			parts = append(parts, "")
			continue
		}
		parts[len(parts)-1] += s[i : i+1]
	}
	if len(parts) != 5 {
		return none, api.ErrFields
	}
	for _, p := range parts {
		if p == "" {
			return none, api.ErrFields
		}
	}
	var x api.Expr
	for kind := range 5 {
		f, e := field.Parse(kind, parts[kind])
		if e != api.OK {
			return none, e
		}
		x[kind] = f
	}
	return x, api.OK
}

// may is whether an expression may be.
func may(x api.Expr) bool {
	for kind, f := range x {
		least, most := edges(kind)
		some := false
		for n := range 64 {
			if allows(f, n) && (n < least || n > most) {
				return false
			}
			some = some || allows(f, n)
		}
		if !some {
			return false
		}
	}
	return true
}

// mayClock is whether a clock may be: it is one that Go's own calendar shows.
func mayClock(c api.Clock) bool {
	if c.Year < 1970 || c.Year > 2399 || c.Month < 1 || c.Month > 12 || c.Day < 1 || c.Day > 31 || c.Hour < 0 || c.Hour > 23 || c.Minute < 0 || c.Minute > 59 || c.Second < 0 || c.Second > 59 {
		return false
	}
	u := time.Date(c.Year, time.Month(c.Month), c.Day, 0, 0, 0, 0, time.UTC)
	return u.Day() == c.Day && int(u.Weekday()) == c.Weekday
}

// text is an expression as a text, word for word as the document tells it; a field's text is layer 6's.
func text(x api.Expr) string {
	if !may(x) {
		return ""
	}
	s := field.Text(0, x[0])
	for kind := 1; kind < 5; kind++ {
		s += " " + field.Text(kind, x[kind])
	}
	return s
}

// dayFits is whether a clock's month and day fit, word for word as the document tells it.
func dayFits(x api.Expr, c api.Clock) bool {
	if !may(x) || !mayClock(c) || !allows(x[3], c.Month) {
		return false
	}
	if x[2].Star || x[4].Star {
		return allows(x[2], c.Day) && allows(x[4], c.Weekday)
	}
	return allows(x[2], c.Day) || allows(x[4], c.Weekday)
}

// fits is whether a clock's minute fits.
func fits(x api.Expr, c api.Clock) bool {
	return allows(x[0], c.Minute) && allows(x[1], c.Hour) && dayFits(x, c)
}

// at is a clock of these numbers, with its date's day of the week.
func at(year, month, day, hour, minute, second int) api.Clock {
	w := time.Date(year, time.Month(month), day, 0, 0, 0, 0, time.UTC).Weekday()
	return api.Clock{Date: api.Date{Year: year, Month: month, Day: day}, Hour: hour, Minute: minute, Second: second, Weekday: int(w)}
}

// of is a text's expression, which there must be.
func of(t *testing.T, s string) api.Expr {
	t.Helper()
	x, e := cron.Parse(s)
	if e != api.OK {
		t.Fatalf("Parse(%q): %d", s, e)
	}
	return x
}

// asked fails unless Parse tells of a text what the document says, and what it tells holds P7.4.
func asked(t *testing.T, s string) {
	t.Helper()
	want, e := parsed(s)
	got, f := cron.Parse(s)
	if got != want || f != e {
		t.Errorf("Parse(%q): %v, %d; want %v, %d", s, got, f, want, e)
	}
	if f == api.OK {
		told(t, got)
	}
}

// refused fails unless Parse tells this error of each text.
func refused(t *testing.T, e api.Errno, texts ...string) {
	t.Helper()
	for _, s := range texts {
		if got, f := cron.Parse(s); got != none || f != e {
			t.Errorf("Parse(%q): %v, %d; want %d", s, got, f, e)
		}
		asked(t, s)
	}
}

// told fails unless May and Text tell of an expression what the document says, and its text is parsed as what allows the same.
func told(t *testing.T, x api.Expr) {
	t.Helper()
	if got := cron.May(x); got != may(x) {
		t.Errorf("May(%v): %v", x, got)
	}
	s := cron.Text(x)
	if s != text(x) {
		t.Errorf("Text(%v): %q, want %q", x, s, text(x))
	}
	if !may(x) {
		return
	}
	again, e := cron.Parse(s)
	if e != api.OK {
		t.Errorf("Text(%v): %q, Parse of it: %d", x, s, e)
	}
	for kind := range x {
		if again[kind].Bits != x[kind].Bits {
			t.Errorf("Text(%v): %q, Parse of it: %v", x, s, again)
		}
	}
}

// shown fails unless Fits and DayFits tell of an expression and a clock what the document says.
func shown(t *testing.T, x api.Expr, c api.Clock) {
	t.Helper()
	if got := cron.Fits(x, c); got != fits(x, c) {
		t.Errorf("Fits(%v, %v): %v", x, c, got)
	}
	if got := cron.DayFits(x, c); got != dayFits(x, c) {
		t.Errorf("DayFits(%v, %v): %v", x, c, got)
	}
}

// answers fails unless Fits and DayFits tell just this of an expression and a clock.
func answers(t *testing.T, x api.Expr, c api.Clock, minute, day bool) {
	t.Helper()
	if got := cron.Fits(x, c); got != minute {
		t.Errorf("Fits(%v, %v): %v, want %v", x, c, got, minute)
	}
	if got := cron.DayFits(x, c); got != day {
		t.Errorf("DayFits(%v, %v): %v, want %v", x, c, got, day)
	}
	shown(t, x, c)
}

// P7.1: the document's examples, and ordinary texts, in each field what it allows.
func TestParse(t *testing.T) {
	stars := api.Expr{all(0, true), all(1, true), all(2, true), all(3, true), all(4, true)}
	for _, r := range []struct {
		s    string
		want api.Expr
	}{
		{"* * * * *", stars},
		{"0-59 0-23 1-31 1-12 0-6", every()},
		{"1 2 3 4 5", api.Expr{only(1), only(2), only(3), only(4), only(5)}},
		{"59 23 31 12 7", api.Expr{only(59), only(23), only(31), only(12), only(0)}},
		{"0 0 13 * fri", api.Expr{only(0), only(0), only(13), stars[3], only(5)}},
		{"0 0 */2 * mon", api.Expr{only(0), only(0), {Bits: 0xaaaaaaaa, Star: true}, stars[3], only(1)}},
		{"*/30 8-10 1,15 jan,DEC Mon-fri", api.Expr{{Bits: 1 | 1<<30, Star: true}, {Bits: 7 << 8}, {Bits: 1<<1 | 1<<15}, {Bits: 1<<1 | 1<<12}, {Bits: 31 << 1}}},
		{"*,5 *,5 *,5 *,5 *,5", stars},
	} {
		if got, e := cron.Parse(r.s); got != r.want || e != api.OK {
			t.Errorf("Parse(%q): %v, %d; want %v", r.s, got, e, r.want)
		}
		asked(t, r.s)
	}
	refused(t, api.ErrFields, "* * * *", "@noon")
	refused(t, api.ErrBound, "61 * * * *")
}

// P7.1: the seven names, each with what it stands for; such a name cut, longer, in great letters, with something ahead or behind.
func TestParseNames(t *testing.T) {
	for name, s := range names {
		x, e := cron.Parse(name)
		if want := of(t, s); x != want || e != api.OK {
			t.Errorf("Parse(%q): %v, %d; want %v", name, x, e, want)
		}
		asked(t, name)
		for i := 1; i < len(name); i++ {
			great := name[:i] + strings.ToUpper(name[i:i+1]) + name[i+1:]
			refused(t, api.ErrFields, name[:i], great, name[:i]+name[i+1:], name[:i]+" "+name[i:], name[:i]+name[i-1:])
		}
		refused(t, api.ErrFields,
			strings.ToUpper(name), name+"s", name+"y", name+name, name[1:], "@"+name, name+"@", name+"\x00", name+"\n", name+"\t",
			" "+name, name+" ", " "+name+" ", "\t"+name, name+" *", name+" * * * *", name+" * * * * *", name+" "+s, name+" "+name, "\x00"+name)
		// Behind a field a name is a field, and no item.
		refused(t, api.ErrItem, s[:len(s)-1]+name, "* * * * "+name, "* "+name+" * * *", "*"+name+" * * * *", "0"+name+" * * * *", "\t"+name+" * * * *")
	}
	refused(t, api.ErrFields, "@", "@ ", " @", "@@", "@ * * * * *", "@ * * * *", "@* * * * *", "@0 0 * * *", "@every", "@reboot", "@noon", "@hour", "@year", "@year ly", "@\xff", "@61 * * * *")
}

// P7.1: texts that have other than five parts, or empty ones, and such with other white space than a blank.
func TestParseParts(t *testing.T) {
	refused(t, api.ErrFields, "", " ", "  ", "    ", "     ", "*", "* *", "* * *", "* * * *", "* * * * * *", "* * * * * * *", "99", "x", "x x x x", "99 99 99 99", "99 x 99 x 99 x",
		" * * * *", "* * * * ", "*  * * *", "* *  * *", "* * *  *", " * * * * *", "* * * * * ", " * * * * * ", "*  * * * *", "* *  * * *", "* * *  * *", "* * * *  *", "  * * *", "* * *  ", "*    ", "    *", "  *  ",
		" 99 * * *", "99  * * *", "x * * * ", "x * * * * ", "99 * * * * *", "* * * * * x",
		"*\t*\t*\t*\t*", "*\n*\n*\n*\n*", "*\t* * * *", "*\u00a0* * * *", "*\u2003* * * *", "*\v* * * *", "*\f* * * *", "*\r* * * *")
	for _, white := range []string{"\t", "\n", "\v", "\f", "\r", "\x00", "\u0085", "\u00a0", "\u2003", "\u3000"} {
		for kind := range 5 {
			parts := slices.Repeat([]string{"*"}, 5)
			for _, p := range []string{white, white + "*", "*" + white, "*" + white + "*", "1" + white} {
				parts[kind] = p
				refused(t, api.ErrItem, strings.Join(parts, " "))
			}
			parts[kind] = ""
			refused(t, api.ErrFields, strings.Join(parts, " "))
			parts[kind] = "* " + white
			refused(t, api.ErrFields, strings.Join(parts, " "))
		}
	}
}

// long is a field's text of that many bytes that allows 1 alone.
func long(n int) string {
	s := strings.Repeat("1,", (n+1)/2)
	if n%2 == 0 {
		return "0" + s[:n-1]
	}
	return s[:n]
}

// P7.1: texts of 400 and 401 bytes, faulty in another way too; a field's text of more than 150 bytes within.
func TestParseLong(t *testing.T) {
	x := every()
	for kind := range x {
		x[kind] = only(1)
	}
	whole := long(149) + " " + long(150) + " " + long(50) + " " + long(40) + " " + long(7)
	if got, e := cron.Parse(whole); len(whole) != 400 || got != x || e != api.OK {
		t.Errorf("Parse of %d bytes: %v, %d", len(whole), got, e)
	}
	asked(t, whole)
	cut := func(s string, n int) string { return (s + strings.Repeat("x", n))[:n] }
	for _, s := range []string{"", "@", "@hourly", "@noon", " ", "    ", "* * * *", "* * * * ", "99 * * * ", "x * * * ", "* * * * 99", "* * * * x", whole, strings.Repeat("1,", 90) + " * * * "} {
		asked(t, cut(s, 400))
		refused(t, api.ErrLong, cut(s, 401), s+strings.Repeat(" ", 401), s+strings.Repeat(" *", 401), cut(s, 402), cut(s, 1000), cut(s, 1<<16))
	}
	refused(t, api.ErrFields, cut("@", 400), cut("@hourly", 400), cut("* * * *", 400), cut("", 400), strings.Repeat(" ", 400), strings.Repeat("* ", 200), "@hourly"+strings.Repeat(" ", 393))
	refused(t, api.ErrLong, cut("@", 401), "@hourly"+strings.Repeat(" ", 394), strings.Repeat(" ", 401), strings.Repeat("* ", 200)+"*", long(150)+" "+long(150)+" * * "+long(95))
	for kind := range 5 {
		parts := slices.Repeat([]string{"1"}, 5)
		parts[kind] = long(150)
		if got, e := cron.Parse(strings.Join(parts, " ")); got != x || e != api.OK {
			t.Errorf("Parse of 150 bytes in the field %d: %v, %d", kind, got, e)
		}
		for _, n := range []int{151, 152, 200, 392} {
			parts[kind] = long(n)
			refused(t, api.ErrLong, strings.Join(parts, " "))
			parts[kind] = strings.Repeat("x", n)
			refused(t, api.ErrLong, strings.Join(parts, " "))
		}
		parts[kind] += "x"
		refused(t, api.ErrLong, strings.Join(parts, " "))
	}
}

// P7.1: a faulty field in each place; of two the left one's error is told, whichever it is.
func TestParseFaults(t *testing.T) {
	faults := []struct {
		e     api.Errno
		texts []string
	}{
		{api.ErrItem, []string{"x", "1,", ",1", "1-", "-1", "1/2", "*-1", "100", "+1", "?", "0@", "*@hourly", "\xff", "1-2-3"}},
		{api.ErrBound, []string{"99", "5-4", "*/0", "*/60", "1-2/0", "60", "1,99", "61"}},
		{api.ErrLong, []string{strings.Repeat("1,", 75) + "1", strings.Repeat("x", 151), strings.Repeat("9", 151)}},
	}
	for kind := range 5 {
		for _, a := range faults {
			for _, bad := range a.texts {
				parts := slices.Repeat([]string{"*"}, 5)
				parts[kind] = bad
				refused(t, a.e, strings.Join(parts, " "))
				for right := kind + 1; right < 5; right++ {
					for _, b := range faults {
						for _, worse := range b.texts {
							both := slices.Clone(parts)
							both[right] = worse
							refused(t, a.e, strings.Join(both, " "))
						}
					}
				}
				// A part that is missing, or one too many, is told ahead of what is in the others.
				refused(t, api.ErrFields, strings.Join(parts[:4], " ")+" ", strings.Join(parts, " ")+" *", strings.Join(parts, " ")+" ", " "+strings.Join(parts, " "))
				if kind < 4 {
					refused(t, api.ErrFields, strings.Join(parts[:4], " "))
				}
			}
		}
	}
	refused(t, api.ErrBound, "60 * * * *", "* 24 * * *", "* * 32 * *", "* * 0 * *", "* * * 13 *", "* * * 0 *", "* * * * 8")
	refused(t, api.ErrItem, "jan * * * *", "* sun * * *", "* * mon * *", "* * * mon *", "* * * * jan", "* * dec * *", "* * * sat *", "* * * * dec", "* feb * * *", "fri * * * *", "* * * jan,fri *", "* * * * fri,jan")
}

// P7.1: each name of a month and of a day of the week in each field, alone and in a range.
func TestParseWords(t *testing.T) {
	words := map[int][]string{
		3: {"jan", "feb", "mar", "apr", "may", "jun", "jul", "aug", "sep", "oct", "nov", "dec"},
		4: {"sun", "mon", "tue", "wed", "thu", "fri", "sat"},
	}
	for own, list := range words {
		least, _ := edges(own)
		for i, w := range list {
			for _, w := range []string{w, strings.ToUpper(w), strings.ToUpper(w[:1]) + w[1:]} {
				for kind := range 5 {
					parts := slices.Repeat([]string{"*"}, 5)
					parts[kind] = w
					s := strings.Join(parts, " ")
					if kind != own {
						refused(t, api.ErrItem, s)
						continue
					}
					if got := of(t, s); got[kind] != only(least+i) {
						t.Errorf("Parse(%q): %v", s, got)
					}
					asked(t, s)
					asked(t, strings.Replace(s, w, "1-"+w, 1))
				}
			}
		}
	}
}

// P7.1: all texts of a few parts, and each text that differs by a byte from some.
func TestParseMany(t *testing.T) {
	parts := []string{"*", "0", "7", "13", "31", "60", "mon", "feb", "x", ""}
	var walk func(s string, left int)
	walk = func(s string, left int) {
		asked(t, s)
		if left == 0 {
			return
		}
		for _, p := range parts {
			walk(s+" "+p, left-1)
		}
	}
	for _, p := range parts {
		walk(p, 3)
	}
	r := rand.New(rand.NewPCG(7, 1))
	for range 40000 {
		var list []string
		for range 5 + r.IntN(2)*r.IntN(2)*(1-2*r.IntN(2)) {
			list = append(list, parts[r.IntN(len(parts))])
		}
		asked(t, strings.Join(list, " "))
	}
	seeds := []string{"0 0 13 * fri", "* * * * *", "*/5 1-3 1,15 jan-mar/2 mon-7"}
	for name := range names {
		seeds = append(seeds, name)
	}
	for _, s := range seeds {
		for i := range len(s) + 1 {
			for c := range 256 {
				one := string([]byte{byte(c)})
				asked(t, s[:i]+one+s[i:])
				if i < len(s) {
					asked(t, s[:i]+one+s[i+1:])
					asked(t, s[:i]+s[i+1:])
				}
			}
		}
	}
}

// P7.2, P7.3: an expression of which a field allows nothing, or something that is beyond its kind, may not be: it has no text, and nothing fits.
func TestMayNot(t *testing.T) {
	c := at(2024, 9, 13, 0, 0, 0)
	for _, star := range []bool{false, true} {
		for kind := range 5 {
			x := every()
			for k := range x {
				x[k].Star = star
			}
			answers(t, x, c, true, true)
			told(t, x)
			least, most := edges(kind)
			faulty := []api.Field{{}, {Star: true}}
			for n := range 64 {
				if n < least || n > most {
					faulty = append(faulty, only(n), api.Field{Bits: x[kind].Bits | 1<<n, Star: star})
				}
			}
			for _, f := range faulty {
				x[kind] = f
				if cron.May(x) || cron.Text(x) != "" {
					t.Errorf("May(%v): %v; Text: %q", x, cron.May(x), cron.Text(x))
				}
				answers(t, x, c, false, false)
				told(t, x)
			}
			for n := least; n <= most; n++ {
				x[kind] = only(n)
				if !cron.May(x) || cron.Text(x) == "" {
					t.Errorf("May(%v): %v; Text: %q", x, cron.May(x), cron.Text(x))
				}
				told(t, x)
				shown(t, x, c)
			}
		}
	}
	for _, x := range []api.Expr{none, {{Star: true}, {Star: true}, {Star: true}, {Star: true}, {Star: true}}} {
		told(t, x)
		answers(t, x, c, false, false)
		answers(t, x, api.Clock{}, false, false)
	}
}

// P7.2: texts of expressions that are free and that are not, and each of the seven names told as a text.
func TestText(t *testing.T) {
	for s, want := range map[string]string{
		"* * * * *":               "* * * * *",
		"*/1 *,3 1-31,* */1 *,*":  "* * 1-31 * *",
		"0-59 0-23 1-31 1-12 0-7": "0-59 0-23 1-31 1-12 0-6",
		"0 0 13 * fri":            "0 0 13 * 5",
		"0 0 */2 * mon":           "0 0 1,3,5,7,9,11,13,15,17,19,21,23,25,27,29,31 * 1",
		"*/20 5,3,4 2,1 feb,1 7":  "0,20,40 3-5 1,2 1,2 0",
		"59 23 31 dec sat":        "59 23 31 12 6",
	} {
		x := of(t, s)
		if got := cron.Text(x); got != want {
			t.Errorf("Text of %q: %q, want %q", s, got, want)
		}
		told(t, x)
	}
	for name, want := range names {
		if got := cron.Text(of(t, name)); got != want {
			t.Errorf("Text of %q: %q, want %q", name, got, want)
		}
	}
}

// P7.3: the document's examples.
func TestFits(t *testing.T) {
	friday := of(t, "0 0 13 * fri")
	answers(t, friday, at(2024, 9, 13, 0, 0, 0), true, true)
	answers(t, friday, at(2024, 9, 20, 0, 0, 0), true, true)
	answers(t, friday, at(2024, 10, 13, 0, 0, 0), true, true) // a Sunday
	answers(t, friday, at(2024, 9, 14, 0, 0, 0), false, false)
	answers(t, friday, at(2024, 9, 13, 0, 1, 0), false, true)
	answers(t, friday, at(2024, 9, 13, 1, 0, 0), false, true)
	monday := of(t, "0 0 */2 * mon")
	answers(t, monday, at(2024, 7, 1, 0, 0, 0), true, true)
	answers(t, monday, at(2024, 7, 3, 0, 0, 0), false, false)
	answers(t, monday, at(2024, 7, 8, 0, 0, 0), false, false)
	answers(t, monday, at(2024, 7, 15, 0, 0, 0), true, true)
}

// P7.3: a minute, an hour, a month alone that is not allowed; DayFits does not ask the hour and the minute.
func TestFitsEach(t *testing.T) {
	c := at(2024, 9, 13, 5, 30, 17)
	for _, days := range []string{" * ", " 13 ", " 14 "} {
		for _, weeks := range []string{" *", " fri", " sat"} {
			day := days != " 14 " && weeks != " sat" || days == " 13 " && weeks == " sat" || days == " 14 " && weeks == " fri"
			answers(t, of(t, "30 5"+days+"9"+weeks), c, day, day)
			answers(t, of(t, "29,31 5"+days+"9"+weeks), c, false, day)
			answers(t, of(t, "30 4,6"+days+"9"+weeks), c, false, day)
			answers(t, of(t, "5 5"+days+"9"+weeks), c, false, day)
			answers(t, of(t, "30 5"+days+"8,10"+weeks), c, false, false)
			answers(t, of(t, "0-29,31-59 0-4,6-23"+days+"1-8,10-12"+weeks), c, false, false)
		}
	}
	for minute := range 60 {
		for hour := range 24 {
			x := every()
			x[api.FdMinute], x[api.FdHour] = only(minute), only(hour)
			answers(t, x, c, minute == 30 && hour == 5, true)
			answers(t, x, at(2024, 9, 13, hour, minute, 59), true, true)
			shown(t, x, at(1970, 1, 1, hour, 59-minute, 0))
		}
	}
	for month := 1; month <= 12; month++ {
		x := every()
		x[api.FdMonth] = only(month)
		for other := 1; other <= 12; other++ {
			answers(t, x, at(2023, other, 28, 23, 59, 0), other == month, other == month)
		}
	}
}

// P7.3: whatever the second, and just the seconds that there are.
func TestFitsSecond(t *testing.T) {
	for _, s := range []string{"* * * * *", "30 5 13 9 fri", "30 5 13 9 sat", "0 0 1 1 *"} {
		x := of(t, s)
		for second := range 60 {
			answers(t, x, at(2024, 9, 13, 5, 30, second), s[0] != '0', s[0] != '0')
			answers(t, x, at(2024, 9, 13, 5, 31, second), s[0] == '*', s[0] != '0')
		}
		for _, second := range []int{-1, 60, 61, 64, 256, -60, math.MinInt, math.MaxInt} {
			answers(t, x, at(2024, 9, 13, 5, 30, second), false, false)
		}
	}
}

// P7.3: of a clock that may not be nothing is told, even of an expression that allows all.
func TestClockMayNot(t *testing.T) {
	whole := []api.Expr{every(), of(t, "* * * * *"), of(t, "* * 1-31 * *"), of(t, "* * * * 0-6")}
	for _, x := range whole {
		good := []api.Clock{at(1970, 1, 1, 0, 0, 0), at(2399, 12, 31, 23, 59, 59), at(2024, 2, 29, 12, 30, 30), at(2000, 2, 29, 0, 0, 0), at(2023, 2, 28, 23, 59, 59), at(2024, 4, 30, 1, 2, 3)}
		for _, c := range good {
			answers(t, x, c, true, true)
			numbers := []*int{&c.Year, &c.Month, &c.Day, &c.Hour, &c.Minute, &c.Second, &c.Weekday}
			for i, n := range numbers {
				own := *n
				least, most := []int{1970, 1, 1, 0, 0, 0, 0}[i], []int{2399, 12, 31, 23, 59, 59, 6}[i]
				for _, far := range []int{least - 1, most + 1, own + 64, own - 64, own + 256, own - 256, own + 1<<32, own - 1<<32, -own - 1, math.MinInt, math.MinInt + own, math.MaxInt, math.MaxInt - 1} {
					if far >= least && far <= most {
						continue
					}
					*n = far
					answers(t, x, c, false, false)
				}
				*n = own
			}
			for week := -8; week < 15; week++ {
				own := c.Weekday
				c.Weekday = week
				answers(t, x, c, week == own, week == own)
				c.Weekday = own
			}
		}
		// A day that its month has not, with each day of the week.
		for _, d := range []api.Date{{Year: 2023, Month: 2, Day: 29}, {Year: 2100, Month: 2, Day: 29}, {Year: 2024, Month: 2, Day: 30}, {Year: 2024, Month: 4, Day: 31}, {Year: 2024, Month: 6, Day: 31}, {Year: 2023, Month: 2, Day: 31}, {}, {Year: 1969, Month: 12, Day: 31}, {Year: 2400, Month: 1, Day: 1}} {
			for week := range 7 {
				answers(t, x, api.Clock{Date: d, Weekday: week}, false, false)
			}
		}
		answers(t, x, api.Clock{}, false, false)
	}
}

// P7.3: FdDay and FdWeek each free or not, and each allowing the clock's day or not, all sixteen together.
func TestDayRule(t *testing.T) {
	c := at(2024, 9, 13, 5, 30, 0) // a Friday
	for row := range 16 {
		dayStar, weekStar, day, week := row&1 != 0, row&2 != 0, row&4 != 0, row&8 != 0
		x := every()
		x[api.FdDay], x[api.FdWeek] = api.Field{Bits: 1<<12 | 1<<14, Star: dayStar}, api.Field{Bits: 1<<4 | 1<<6, Star: weekStar}
		if day {
			x[api.FdDay].Bits |= 1 << 13
		}
		if week {
			x[api.FdWeek].Bits |= 1 << 5
		}
		want := day || week
		if dayStar || weekStar {
			want = day && week
		}
		// That other fields are free changes nothing.
		for mask := range 8 {
			x[api.FdMinute].Star, x[api.FdHour].Star, x[api.FdMonth].Star = mask&1 != 0, mask&2 != 0, mask&4 != 0
			answers(t, x, c, want, want)
		}
		x[api.FdMinute] = only(31)
		answers(t, x, c, false, want)
		x[api.FdMinute], x[api.FdHour] = only(30), only(6)
		answers(t, x, c, false, want)
		x[api.FdHour], x[api.FdMonth] = only(5), only(9)
		answers(t, x, c, want, want)
		x[api.FdMonth] = only(10)
		answers(t, x, c, false, false)
	}
}

// P7.3: a field that is free and does not allow all, and one that allows all and is not free, by texts.
func TestDayRuleTexts(t *testing.T) {
	for _, r := range []struct {
		s                      string
		friday13, friday20     bool
		thursday12, saturday14 bool
		thursday19, saturday21 bool
	}{
		{"* * * * *", true, true, true, true, true, true},
		{"* * 13 * *", true, false, false, false, false, false},
		{"* * * * fri", true, true, false, false, false, false},
		{"* * 13 * fri", true, true, false, false, false, false},
		{"* * 14 * fri", true, true, false, true, false, false},
		{"* * */2 * *", true, false, false, false, true, true},
		{"* * */2 * fri", true, false, false, false, false, false},
		{"* * */2 * 4-6", true, false, false, false, true, true},
		{"* * 1-31/2 * fri", true, true, false, false, true, true},
		{"* * 13 * */5", true, false, false, false, false, false},
		{"* * 12,14 * */5", false, false, false, false, false, false},
		{"* * 12,14 * */2", false, false, true, true, false, false},
		{"* * 12,14 * 0-6/2", false, false, true, true, true, true},
		{"* * 13 * 0-6", true, true, true, true, true, true},
		{"* * 1-31 * fri", true, true, true, true, true, true},
		{"* * 1-31 * *", true, true, true, true, true, true},
		{"* * 1-31 * */5", true, true, false, false, false, false},
		{"* * *,1 * fri", true, true, false, false, false, false},
		{"* * 1,* * fri", true, true, true, true, true, true},
		{"* * 13,*/31 * *", true, false, false, false, false, false},
	} {
		x := of(t, r.s)
		for day, want := range map[int]bool{13: r.friday13, 20: r.friday20, 12: r.thursday12, 14: r.saturday14, 19: r.thursday19, 21: r.saturday21} {
			answers(t, x, at(2024, 9, day, 5, 30, 0), want, want)
		}
	}
}

// P7.3: all days of some years, of many texts, on the clocks that layer 5 tells.
func TestFitsAll(t *testing.T) {
	texts := []string{"0 0 29 2 *", "59 23 31 * *", "30 12 29 2 mon", "0 0 */2 * mon", "0 0 1 1 *", "0 12 1-7 * fri", "* * * feb,dec sun", "*/7 */5 */3 */2 */2", "0 0 13 * fri", "@weekly", "@monthly", "15 6 30,31 4-6 7"}
	for _, s := range texts {
		x := of(t, s)
		for _, year := range []int{1970, 1972, 2000, 2023, 2024, 2100, 2399} {
			from := time.Date(year, 1, 1, 0, 0, 0, 0, time.UTC).Unix()
			for day := range int64(366) {
				for _, second := range []int64{0, 59, 6*3600 + 15*60, 12 * 3600, 12*3600 + 30*60 + 1, 86399} {
					c, e := stamp.Split(from + day*86400 + second)
					if e != api.OK && year != 2399 {
						t.Fatal(year, day, e)
					}
					shown(t, x, c)
				}
			}
		}
	}
}

// some is an expression by chance that may be; its fields may be free.
func some(r *rand.Rand) (x api.Expr) {
	for kind := range x {
		whole := all(kind, false).Bits
		for x[kind].Bits == 0 {
			x[kind].Bits = whole
			for range r.IntN(4) {
				x[kind].Bits &= r.Uint64()
			}
		}
		x[kind].Star = r.IntN(2) == 0
	}
	return x
}

// P7.2, P7.3, P7.4: expressions by chance, some of which may not be, and clocks, some of which may not be.
func TestMany(t *testing.T) {
	r := rand.New(rand.NewPCG(7, 2))
	for range 60000 {
		x := some(r)
		told(t, x)
		c, e := stamp.Split(r.Int64N(api.MaxTime))
		if e != api.OK {
			t.Fatal(e)
		}
		shown(t, x, c)
		// The numbers that the clock shows are allowed more often.
		near := x
		for kind, n := range []int{c.Minute, c.Hour, c.Day, c.Month, c.Weekday} {
			if r.IntN(8) > 0 {
				near[kind].Bits |= 1 << n
			}
		}
		shown(t, near, c)
		bad := near
		bad[r.IntN(5)].Bits ^= 1 << r.UintN(64)
		told(t, bad)
		shown(t, bad, c)
		*[]*int{&c.Year, &c.Month, &c.Day, &c.Hour, &c.Minute, &c.Second, &c.Weekday}[r.IntN(7)] += r.IntN(41) - 20
		shown(t, near, c)
	}
}

// P7.4: a text's expression, told as a text, and parsed, allows the same in each field, and the text is told again as itself.
func TestTextAgain(t *testing.T) {
	r := rand.New(rand.NewPCG(7, 3))
	for range 30000 {
		var parts []string
		for kind := range 5 {
			least, most := edges(kind)
			var items []string
			for range 1 + r.IntN(3) {
				first := least + r.IntN(most-least+1)
				last := first + r.IntN(most-first+1)
				a, b := strconv.Itoa(first), strconv.Itoa(last)
				step := "/" + strconv.Itoa(1+r.IntN(9))
				items = append(items, []string{"*", "*" + step, a, a + "-" + b, a + "-" + b + step}[r.IntN(5)])
			}
			parts = append(parts, strings.Join(items, ","))
		}
		s := strings.Join(parts, " ")
		x := of(t, s)
		asked(t, s)
		again := of(t, cron.Text(x))
		for kind := range x {
			if again[kind].Bits != x[kind].Bits {
				t.Errorf("%q: %v; told as %q: %v", s, x, cron.Text(x), again)
			}
		}
		if once, twice := cron.Text(x), cron.Text(again); once != twice {
			t.Errorf("%q: told as %q, and then as %q", s, once, twice)
		}
	}
}

// P7.4: an expression with more allowed in a field fits where it did, as long as no field is free that was not, or is not that was.
func TestMoreAllowed(t *testing.T) {
	r := rand.New(rand.NewPCG(7, 4))
	fitted := 0
	for range 60000 {
		x := some(r)
		c, e := stamp.Split(r.Int64N(api.MaxTime))
		if e != api.OK {
			t.Fatal(e)
		}
		for kind, n := range []int{c.Minute, c.Hour, c.Day, c.Month, c.Weekday} {
			if r.IntN(6) > 0 {
				x[kind].Bits |= 1 << n
			}
		}
		more := x
		for range 1 + r.IntN(2) {
			kind := r.IntN(5)
			more[kind].Bits |= r.Uint64() & all(kind, false).Bits
		}
		if cron.Fits(x, c) {
			fitted++
			if !cron.Fits(more, c) {
				t.Errorf("%v fits %v, %v does not", x, c, more)
			}
		}
		if cron.DayFits(x, c) && !cron.DayFits(more, c) {
			t.Errorf("%v fits the day %v, %v does not", x, c, more)
		}
		shown(t, more, c)
	}
	if fitted < 10000 {
		t.Errorf("just %d fitted", fitted)
	}
	// A field that becomes free may leave out what fitted: so the words have it.
	c := at(2024, 9, 20, 0, 0, 0)
	x := of(t, "* * 13 * fri")
	free := x
	free[api.FdDay] = api.Field{Bits: x[api.FdDay].Bits | 1<<14, Star: true}
	answers(t, x, c, true, true)
	answers(t, free, c, false, false)
}

// P1: each call ends and none panics, at all arguments; P7.1 to P7.4 of each.
func FuzzCron(f *testing.F) {
	for i, s := range []string{"* * * * *", "0 0 13 * fri", "0 0 */2 * mon", "* * * *", "@noon", "@hourly", "61 * * * *", "", " ", "1 2 3 4 x", strings.Repeat("1", 401), "\xff * * * *"} {
		n := uint64(i)
		f.Add(s, n*977, n*31, n*1023, n*4095, n*127, byte(i*37), 2024, 9, 13, i, i, i, 5)
	}
	f.Add("@yearly", uint64(math.MaxUint64), uint64(1)<<63, uint64(2), uint64(2), uint64(1), byte(255), math.MinInt, math.MaxInt, -1, 24, 60, 60, 7)
	f.Fuzz(func(t *testing.T, s string, minute, hour, day, month, week uint64, stars byte, year, m, d, h, min, sec, w int) {
		asked(t, s)
		x := api.Expr{{Bits: minute}, {Bits: hour}, {Bits: day}, {Bits: month}, {Bits: week}}
		for kind := range x {
			x[kind].Star = stars&(1<<kind) != 0
		}
		c := api.Clock{Date: api.Date{Year: year, Month: m, Day: d}, Hour: h, Minute: min, Second: sec, Weekday: w}
		clocks := []api.Clock{c}
		if good, e := stamp.Split(int64(bits.RotateLeft64(minute^week, int(stars)) % api.MaxTime)); e == api.OK {
			clocks = append(clocks, good)
		}
		for _, c := range clocks {
			told(t, x)
			shown(t, x, c)
			for kind := range x {
				least, most := edges(kind)
				x[kind].Bits = x[kind].Bits&all(kind, false).Bits | 1<<(least+int(stars)%(most-least+1))
			}
			told(t, x)
			shown(t, x, c)
			if y, e := cron.Parse(s); e == api.OK {
				shown(t, y, c)
			}
		}
	})
}
