package field_test

import (
	"math"
	"math/rand/v2"
	"regexp"
	"slices"
	"strconv"
	"strings"
	"testing"

	"ringer/api"
	"ringer/field"
)

// kinds are all that there are.
var kinds = []int{api.FdMinute, api.FdHour, api.FdDay, api.FdMonth, api.FdWeek}

// noKinds are none.
var noKinds = []int{math.MinInt, math.MinInt + 1, -256, -5, -2, -1, 5, 6, 7, 64, 256, 257, 1 << 32, 1<<32 + 4, math.MaxInt - 1, math.MaxInt}

// words are the names of a kind, with the numbers for which they stand.
func words(kind int) map[string]int {
	switch kind {
	case api.FdMonth:
		return map[string]int{"jan": 1, "feb": 2, "mar": 3, "apr": 4, "may": 5, "jun": 6, "jul": 7, "aug": 8, "sep": 9, "oct": 10, "nov": 11, "dec": 12}
	case api.FdWeek:
		return map[string]int{"sun": 0, "mon": 1, "tue": 2, "wed": 3, "thu": 4, "fri": 5, "sat": 6}
	}
	return nil
}

// edges are the least and the greatest number of a kind; in a text there may stand one more in FdWeek.
func edges(kind int) (least, most, written int) {
	switch kind {
	case api.FdMinute:
		return 0, 59, 59
	case api.FdHour:
		return 0, 23, 23
	case api.FdDay:
		return 1, 31, 31
	case api.FdMonth:
		return 1, 12, 12
	}
	return 0, 6, 7
}

// grammar is what an item of a kind looks like: all of it, first, last and step of a range, step of *, or a number alone.
func grammar(kind int) *regexp.Regexp {
	number := "[0-9]|[0-9][0-9]"
	for w := range words(kind) {
		number += "|"
		for _, c := range w {
			number += "[" + string(c) + string(c-'a'+'A') + "]"
		}
	}
	number = "(" + number + ")"
	return regexp.MustCompile(`^(?:\*(?:/` + number + `)?|` + number + `-` + number + `(?:/` + number + `)?|` + number + `)$`)
}

// grammars are those of all kinds.
var grammars = func() (l []*regexp.Regexp) {
	for _, kind := range kinds {
		l = append(l, grammar(kind))
	}
	return l
}()

// value is the number for which a text stands, less if it is empty.
func value(kind int, s string, less int) int {
	if n, ok := words(kind)[strings.ToLower(s)]; ok {
		return n
	}
	if n, e := strconv.Atoi(s); e == nil {
		return n
	}
	return less
}

// parsed is a text's field, word for word as the document tells it.
func parsed(kind int, s string) (api.Field, api.Errno) {
	if !slices.Contains(kinds, kind) {
		return api.Field{}, api.ErrArg
	}
	if len(s) > 150 {
		return api.Field{}, api.ErrLong
	}
	least, most, written := edges(kind)
	allowed := map[int]bool{}
	for item := range strings.SplitSeq(s, ",") {
		m := grammars[kind].FindStringSubmatch(item)
		if m == nil {
			return api.Field{}, api.ErrItem
		}
		first, last, step := least, most, 1
		switch {
		case item[0] == '*':
			step = value(kind, m[1], 1)
		case strings.Contains(item, "-"):
			first, last, step = value(kind, m[2], -1), value(kind, m[3], -1), value(kind, m[4], 1)
		default:
			first = value(kind, m[5], -1)
			last = first
		}
		if first < least || first > written || last < least || last > written || last < first || step == 0 || step > 59 {
			return api.Field{}, api.ErrBound
		}
		for n := range last + 1 {
			if n >= first && (n-first)%step == 0 {
				allowed[n] = true
			}
		}
	}
	f := api.Field{Star: s != "" && s[0] == '*'}
	for n := range allowed {
		if kind == api.FdWeek && n == 7 {
			n = 0
		}
		f.Bits |= 1 << n
	}
	return f, api.OK
}

// may is whether a field may be of a kind.
func may(kind int, f api.Field) bool {
	if !slices.Contains(kinds, kind) {
		return false
	}
	least, most, _ := edges(kind)
	some := false
	for n := range 64 {
		if !has(f, n) {
			continue
		}
		some = true
		if n < least || n > most {
			return false
		}
	}
	return some
}

// has is whether a number is allowed.
func has(f api.Field, n int) bool {
	if n < 0 || n > 63 {
		return false
	}
	s := strconv.FormatUint(f.Bits, 2)
	return n < len(s) && s[len(s)-1-n] == '1'
}

// text is a field as a text, word for word as the document tells it.
func text(kind int, f api.Field) string {
	if !may(kind, f) {
		return ""
	}
	least, most, _ := edges(kind)
	if f.Star && len(numbers(f)) == most-least+1 {
		return "*"
	}
	var parts []string
	for l := numbers(f); len(l) > 0; {
		n := 1
		for n < len(l) && l[n] == l[0]+n {
			n++
		}
		if n >= 3 {
			parts = append(parts, strconv.Itoa(l[0])+"-"+strconv.Itoa(l[n-1]))
			l = l[n:]
			continue
		}
		parts = append(parts, strconv.Itoa(l[0]))
		l = l[1:]
	}
	return strings.Join(parts, ",")
}

// numbers are those that a field allows, rising.
func numbers(f api.Field) (l []int) {
	for n := range 64 {
		if has(f, n) {
			l = append(l, n)
		}
	}
	return l
}

// of is the field that allows these.
func of(star bool, l ...int) api.Field {
	f := api.Field{Star: star}
	for _, n := range l {
		f.Bits |= 1 << n
	}
	return f
}

// span is all numbers from first to last.
func span(first, last int) (l []int) {
	for n := first; n <= last; n++ {
		l = append(l, n)
	}
	return l
}

// whole is the field of a kind that allows all.
func whole(kind int, star bool) api.Field {
	least, most, _ := edges(kind)
	return of(star, span(least, most)...)
}

// asked fails unless Parse tells of a text what the document says, and what it tells holds P6.4.
func asked(t *testing.T, kind int, s string) {
	t.Helper()
	want, e := parsed(kind, s)
	got, f := field.Parse(kind, s)
	if got != want || f != e {
		t.Errorf("Parse(%d, %q): %v, %d; want %v, %d", kind, s, got, f, want, e)
	}
	if f == api.OK {
		again(t, kind, got)
	}
}

// again fails unless the text of a field that may be is parsed as what allows the same, free just if it was free and allows all.
func again(t *testing.T, kind int, f api.Field) {
	t.Helper()
	s := field.Text(kind, f)
	got, e := field.Parse(kind, s)
	if want := (api.Field{Bits: f.Bits, Star: f.Star && f.Bits == whole(kind, true).Bits}); got != want || e != api.OK || s == "" {
		t.Errorf("of the kind %d, %v as a text: %q, parsed: %v, %d", kind, f, s, got, e)
	}
}

// told fails unless May and Text tell of a field what the document says.
func told(t *testing.T, kind int, f api.Field) {
	t.Helper()
	if got := field.May(kind, f); got != may(kind, f) {
		t.Errorf("May(%d, %b): %v", kind, f.Bits, got)
	}
	if got := field.Text(kind, f); got != text(kind, f) {
		t.Errorf("Text(%d, %b, %v): %q, want %q", kind, f.Bits, f.Star, got, text(kind, f))
	}
	if may(kind, f) {
		again(t, kind, f)
	}
}

// looked fails unless Has and First tell of a number what the document says.
func looked(t *testing.T, f api.Field, n int) {
	t.Helper()
	if got := field.Has(f, n); got != has(f, n) {
		t.Errorf("Has(%b, %d): %v", f.Bits, n, got)
	}
	want, found := 0, false
	for _, m := range numbers(f) {
		if m >= n {
			want, found = m, true
			break
		}
	}
	if got, ok := field.First(f, n); got != want || ok != found {
		t.Errorf("First(%b, %d): %d, %v; want %d, %v", f.Bits, n, got, ok, want, found)
	}
}

// row is a text of a kind, and what is told of it.
type row struct {
	kind int
	s    string
	want api.Field
	e    api.Errno
}

// rows fails unless Parse tells of each row what stands in it.
func rows(t *testing.T, l []row) {
	t.Helper()
	for _, r := range l {
		if got, e := field.Parse(r.kind, r.s); got != r.want || e != r.e {
			t.Errorf("Parse(%d, %q): %v, %d; want %v, %d", r.kind, r.s, got, e, r.want, r.e)
		}
		asked(t, r.kind, r.s)
	}
}

// refused are rows of texts of which an error is told.
func refused(kind int, e api.Errno, texts ...string) (l []row) {
	for _, s := range texts {
		l = append(l, row{kind, s, api.Field{}, e})
	}
	return l
}

// P6.1: the document's examples.
func TestParse(t *testing.T) {
	rows(t, []row{
		{api.FdMinute, "*/20", of(true, 0, 20, 40), api.OK},
		{api.FdWeek, "Mon-fri,7", of(false, 0, 1, 2, 3, 4, 5), api.OK},
		{api.FdWeek, "5-7", of(false, 5, 6, 0), api.OK},
		{api.FdHour, "24", api.Field{}, api.ErrBound},
		{api.FdHour, "5-", api.Field{}, api.ErrItem},
		{api.FdMonth, "mon", api.Field{}, api.ErrItem},
	})
}

// P6.1: ordinary texts of each kind.
func TestParseOrdinary(t *testing.T) {
	rows(t, []row{
		{api.FdMinute, "*", of(true, span(0, 59)...), api.OK},
		{api.FdHour, "*", of(true, span(0, 23)...), api.OK},
		{api.FdDay, "*", of(true, span(1, 31)...), api.OK},
		{api.FdMonth, "*", of(true, span(1, 12)...), api.OK},
		{api.FdWeek, "*", of(true, span(0, 6)...), api.OK},
		{api.FdMinute, "0-59", of(false, span(0, 59)...), api.OK},
		{api.FdMinute, "0,15,30,45", of(false, 0, 15, 30, 45), api.OK},
		{api.FdMinute, "45,0,30,15,0", of(false, 0, 15, 30, 45), api.OK},
		{api.FdMinute, "05", of(false, 5), api.OK},
		{api.FdMinute, "00-09/03", of(false, 0, 3, 6, 9), api.OK},
		{api.FdMinute, "3-10/3", of(false, 3, 6, 9), api.OK},
		{api.FdMinute, "3-9/3", of(false, 3, 6, 9), api.OK},
		{api.FdMinute, "3-8/3", of(false, 3, 6), api.OK},
		{api.FdHour, "9-17", of(false, span(9, 17)...), api.OK},
		{api.FdHour, "8,12-14,20-23/2", of(false, 8, 12, 13, 14, 20, 22), api.OK},
		{api.FdDay, "*/10", of(true, 1, 11, 21, 31), api.OK},
		{api.FdDay, "1-7,15", of(false, 1, 2, 3, 4, 5, 6, 7, 15), api.OK},
		{api.FdMonth, "*/3", of(true, 1, 4, 7, 10), api.OK},
		{api.FdMonth, "jan-mar,12", of(false, 1, 2, 3, 12), api.OK},
		{api.FdWeek, "*/2", of(true, 0, 2, 4, 6), api.OK},
		{api.FdWeek, "sat,sun", of(false, 0, 6), api.OK},
		{api.FdHour, "*,5", of(true, span(0, 23)...), api.OK},
		{api.FdHour, "5,*", of(false, span(0, 23)...), api.OK},
		{api.FdHour, "*/8,5", of(true, 0, 5, 8, 16), api.OK},
		{api.FdHour, "5,*/8", of(false, 0, 5, 8, 16), api.OK},
		{api.FdHour, "*/8,*/12", of(true, 0, 8, 12, 16), api.OK},
		{api.FdHour, "1,*,2", of(false, span(0, 23)...), api.OK},
	})
}

// P6.1: ErrArg ahead of all else, of what is no kind.
func TestParseKind(t *testing.T) {
	for _, kind := range noKinds {
		for _, s := range []string{"", "*", "1", "99", "x", "jan", "mon", strings.Repeat("1,", 75), strings.Repeat("1,", 75) + "1", strings.Repeat("*", 200)} {
			if f, e := field.Parse(kind, s); f != (api.Field{}) || e != api.ErrArg {
				t.Errorf("Parse(%d, %q): %v, %d", kind, s, f, e)
			}
		}
	}
	for _, kind := range kinds {
		if f, e := field.Parse(kind, "1"); f != of(false, 1) || e != api.OK {
			t.Errorf("Parse(%d, 1): %v, %d", kind, f, e)
		}
	}
}

// P6.1: texts of 149 to 152 bytes, and far longer ones: ErrLong ahead of what is amiss in an item.
func TestParseLong(t *testing.T) {
	for _, kind := range kinds {
		for _, unit := range []string{"1,", "1-2,", "01,", "*,", "*/1,", "9,", "x", ",", "1", "99,", "1-2/3,", "5-1,", "\xff", "é"} {
			for n := 147; n <= 153; n++ {
				s := strings.Repeat(unit, 160)[:n]
				asked(t, kind, s)
				asked(t, kind, s[:n-1]+"1")
				if f, e := field.Parse(kind, s); n > 150 && (f != (api.Field{}) || e != api.ErrLong) {
					t.Errorf("Parse(%d, %q), %d bytes: %v, %d", kind, s, n, f, e)
				}
			}
		}
		exact := strings.Repeat("1,", 74) + "01"
		if f, e := field.Parse(kind, exact); len(exact) != 150 || f != of(false, 1) || e != api.OK {
			t.Errorf("Parse(%d, ..), %d bytes: %v, %d", kind, len(exact), f, e)
		}
		for _, s := range []string{exact + ",", exact + ",1", strings.Repeat("1,", 75) + "1", strings.Repeat("1", 1<<20), strings.Repeat(",", 151)} {
			if f, e := field.Parse(kind, s); f != (api.Field{}) || e != api.ErrLong {
				t.Errorf("Parse(%d, ..), %d bytes: %v, %d", kind, len(s), f, e)
			}
		}
	}
}

// P6.1: items that are none, of each kind.
func TestParseItem(t *testing.T) {
	for _, kind := range kinds {
		rows(t, refused(kind, api.ErrItem,
			"", ",", ",,", ",1", "1,", "1,,2", ",1,2", "1,2,", "*,", ",*",
			"001", "100", "000", "111-112", "1-002", "001-2", "*/001", "*/100", "*/000", "*/1000", "1-2/001", "1-5/100", "1000", "99999999999999999999", "18446744073709551617",
			"1/2", "1/1", "1/0", "1/60", "1/", "1/x", "99/1", "05/1", "1-", "-1", "-", "--", "1--2", "1-2-", "1-2-3", "-1-2", "1-2/", "1-2//", "1-2//3", "1-2/3/4", "1-2/3-4", "1-2/-1", "1/2-3",
			"*-", "*-5", "5-*", "*1", "1*", "**", "*/*", "*/", "*//2", "*/2/3", "*/-1", "*/2-3", "*x", "* ", " *", "*5/2", "*/2*", "1-2*", "/", "/2", "/*", "//",
			" ", " 1", "1 ", "1 -2", "1- 2", "1-2 ", "1, 2", "1 ,2", "\t1", "1\n", "1-2/ 3", "1-2 /3", "*/ 2", "* /2", "1\x002", "\x001", "1\x00",
			"+1", "+", "1-+2", "*/+2", "1-2/+1", "1.0", "1.", "0x1", "1e1", "1_0", "_1", "a", "x", "ab", "abc", "abcd", "1a", "a1", "1-a", "a-1", "*/a", "*/x", "?", "L", "#", "1#2", "1;2", "1|2", "1:2", "%", "@daily",
			"é", "٣", "१", "１", "\xff", "1\xff", "\xc3", "*\xff", "ſ", "ſun", "ſat", "ſep", "auguſt", "Ｊan",
			"december", "sunday", "january", "su", "ja", "sunn", "jann", "xjan", "xsun", "jan1", "sun1", "1jan", "1sun", "jan ", " sun", "j", "s", "null", "jan/1", "sun/1", "feb/2", "mon/2", "jan-", "sun-", "-jan", "-sun", "jansun", "janfeb", "sunmon", "jan*", "*sun", "*/janfeb", "*/sunmon",
			"jan,", ",sun", "*/ja", "*/su", "jaN2", "n/a", "day",
		))
	}
}

// P6.1: each number of one, two and three digits, alone, with a 0 ahead, and one behind, of each kind.
func TestParseNumbers(t *testing.T) {
	for _, kind := range kinds {
		least, most, written := edges(kind)
		for n := range 1001 {
			s := strconv.Itoa(n)
			for _, s := range []string{s, "0" + s, s + "0", "00" + s} {
				asked(t, kind, s)
			}
			want, e := api.Field{}, api.OK
			switch {
			case n > 99:
				e = api.ErrItem
			case n < least || n > written:
				e = api.ErrBound
			case n > most:
				want = of(false, 0)
			default:
				want = of(false, n)
			}
			if got, f := field.Parse(kind, s); got != want || f != e {
				t.Errorf("Parse(%d, %q): %v, %d; want %v, %d", kind, s, got, f, want, e)
			}
		}
	}
}

// P6.1: the least and the greatest number of each kind, and one beyond on both sides, alone, in ranges and in lists.
func TestParseBound(t *testing.T) {
	var l []row
	l = append(l, refused(api.FdMinute, api.ErrBound, "60", "0-60", "59-60", "60-60", "60-61", "99", "0,60", "60,0", "60-5", "0-99/7", "*,60", "*/5,60")...)
	l = append(l, refused(api.FdHour, api.ErrBound, "24", "0-24", "23-24", "24-24", "59", "60", "23,24", "24,23", "24-0")...)
	l = append(l, refused(api.FdDay, api.ErrBound, "0", "00", "32", "0-31", "0-0", "1-32", "31-32", "32-33", "0-5/5", "1,0", "0,1", "0-32")...)
	l = append(l, refused(api.FdMonth, api.ErrBound, "0", "13", "0-12", "1-13", "12-13", "0-jan", "jan-13", "0-feb/2", "dec,13", "0,dec")...)
	l = append(l, refused(api.FdWeek, api.ErrBound, "8", "0-8", "7-8", "8-8", "8-9", "sun-8", "8-sat", "0,8", "7,8", "sat-9")...)
	for _, kind := range kinds {
		l = append(l, refused(kind, api.ErrBound, "5-4", "4-1", "2-1", "5-4/2", "3-1/9", "1,2-1", "2-1,1", "*/0", "*/00", "*/60", "*/61", "*/99", "1-2/0", "1-2/00", "1-2/60", "1-2/99", "1-1/0", "5-4/0", "99-1/99", "99", "98-99", "1-99", "99-1", "1,99", "99,1", "*,99", "*/0,1", "1,*/0")...)
		least, most, _ := edges(kind)
		least10, most10 := strconv.Itoa(least), strconv.Itoa(most)
		l = append(l,
			row{kind, least10, of(false, least), api.OK}, row{kind, most10, of(false, most), api.OK},
			row{kind, least10 + "-" + most10, whole(kind, false), api.OK},
			row{kind, least10 + "-" + least10, of(false, least), api.OK}, row{kind, most10 + "-" + most10, of(false, most), api.OK},
			row{kind, most10 + "," + least10, of(false, least, most), api.OK},
			row{kind, "*/1", whole(kind, true), api.OK}, row{kind, "*/01", whole(kind, true), api.OK},
			row{kind, "*/59", of(true, slices.DeleteFunc([]int{least, least + 59}, func(n int) bool { return n > most })...), api.OK},
			row{kind, least10 + "-" + least10 + "/59", of(false, least), api.OK},
			row{kind, least10 + "-" + most10 + "/1", whole(kind, false), api.OK},
			row{kind, "1-5/2", of(false, 1, 3, 5), api.OK}, row{kind, "2-5/2", of(false, 2, 4), api.OK}, row{kind, "1-5/4", of(false, 1, 5), api.OK}, row{kind, "1-5/5", of(false, 1), api.OK},
		)
	}
	rows(t, l)
}

// P6.1: in FdWeek 7 is 0, and stands behind 6.
func TestParseSeven(t *testing.T) {
	rows(t, []row{
		{api.FdWeek, "0", of(false, 0), api.OK}, {api.FdWeek, "6", of(false, 6), api.OK}, {api.FdWeek, "7", of(false, 0), api.OK}, {api.FdWeek, "07", of(false, 0), api.OK}, {api.FdWeek, "8", api.Field{}, api.ErrBound},
		{api.FdWeek, "7-7", of(false, 0), api.OK}, {api.FdWeek, "6-7", of(false, 0, 6), api.OK}, {api.FdWeek, "0-7", of(false, span(0, 6)...), api.OK}, {api.FdWeek, "1-7", of(false, span(0, 6)...), api.OK}, {api.FdWeek, "2-7", of(false, 0, 2, 3, 4, 5, 6), api.OK},
		{api.FdWeek, "0-7/7", of(false, 0), api.OK}, {api.FdWeek, "1-7/2", of(false, 0, 1, 3, 5), api.OK}, {api.FdWeek, "0-7/2", of(false, 0, 2, 4, 6), api.OK}, {api.FdWeek, "1-7/3", of(false, 0, 1, 4), api.OK}, {api.FdWeek, "5-7/2", of(false, 0, 5), api.OK}, {api.FdWeek, "6-7/2", of(false, 6), api.OK}, {api.FdWeek, "7-7/3", of(false, 0), api.OK},
		{api.FdWeek, "sun-7", of(false, span(0, 6)...), api.OK}, {api.FdWeek, "fri-7", of(false, 0, 5, 6), api.OK}, {api.FdWeek, "SAT-7/1", of(false, 0, 6), api.OK},
		{api.FdWeek, "7-0", api.Field{}, api.ErrBound}, {api.FdWeek, "7-1", api.Field{}, api.ErrBound}, {api.FdWeek, "7-6", api.Field{}, api.ErrBound}, {api.FdWeek, "7-sun", api.Field{}, api.ErrBound}, {api.FdWeek, "7-sat", api.Field{}, api.ErrBound}, {api.FdWeek, "5-sun", api.Field{}, api.ErrBound}, {api.FdWeek, "sat-sun", api.Field{}, api.ErrBound}, {api.FdWeek, "7-8", api.Field{}, api.ErrBound},
		{api.FdWeek, "*/7", of(true, 0), api.OK}, {api.FdWeek, "*/6", of(true, 0, 6), api.OK}, {api.FdWeek, "*/3", of(true, 0, 3, 6), api.OK}, {api.FdWeek, "*,7", of(true, span(0, 6)...), api.OK}, {api.FdWeek, "0,7", of(false, 0), api.OK},
		{api.FdDay, "7", of(false, 7), api.OK}, {api.FdMinute, "5-7", of(false, 5, 6, 7), api.OK}, {api.FdMonth, "7", of(false, 7), api.OK}, {api.FdHour, "7-8", of(false, 7, 8), api.OK},
	})
}

// P6.1: names, in great and small letters, alone, in ranges, with steps, and as steps, of their kind alone.
func TestParseNames(t *testing.T) {
	for _, of2 := range []int{api.FdMonth, api.FdWeek} {
		for w, n := range words(of2) {
			for mask := range 8 {
				s := ""
				for i, c := range w {
					if mask>>i&1 == 1 {
						c += 'A' - 'a'
					}
					s += string(c)
				}
				for _, kind := range kinds {
					want, e := of(false, n), api.OK
					if kind != of2 {
						want, e = api.Field{}, api.ErrItem
					}
					if got, f := field.Parse(kind, s); got != want || f != e {
						t.Errorf("Parse(%d, %q): %v, %d; want %v, %d", kind, s, got, f, want, e)
					}
					for _, cut := range []string{s[:2], s[1:], s[:1], s + "s", s + "1", "1" + s, s + s, s + " ", s + "/1", s + "/" + s, s + "-", "-" + s, s + "*", s + "-" + s, s + "-" + s + "/2", s + "-7", "1-" + s, "1-" + s + "/3", "*/" + s, "1-5/" + s, s + ",1", "1," + s, "*," + s, s + "-99", s[:2] + "-5"} {
						asked(t, kind, cut)
					}
				}
			}
		}
	}
	rows(t, []row{
		{api.FdMonth, "jan-dec", of(false, span(1, 12)...), api.OK}, {api.FdMonth, "FEB-nov/3", of(false, 2, 5, 8, 11), api.OK}, {api.FdMonth, "3-Jun", of(false, 3, 4, 5, 6), api.OK}, {api.FdMonth, "jun-3", api.Field{}, api.ErrBound}, {api.FdMonth, "dec-jan", api.Field{}, api.ErrBound},
		{api.FdWeek, "sun-sat", of(false, span(0, 6)...), api.OK}, {api.FdWeek, "MON-Fri/2", of(false, 1, 3, 5), api.OK}, {api.FdWeek, "fri-mon", api.Field{}, api.ErrBound}, {api.FdWeek, "thu-thu", of(false, 4), api.OK}, {api.FdWeek, "sun", of(false, 0), api.OK},
		// A name stands for a number wherever one may stand.
		{api.FdMonth, "*/apr", of(true, 1, 5, 9), api.OK}, {api.FdWeek, "*/tue", of(true, 0, 2, 4, 6), api.OK}, {api.FdWeek, "1-7/wed", of(false, 0, 1, 4), api.OK}, {api.FdWeek, "*/sun", api.Field{}, api.ErrBound}, {api.FdMonth, "*/sun", api.Field{}, api.ErrItem},
	})
}

// P6.1: all pairs of numbers as ranges, and all steps.
func TestParseRanges(t *testing.T) {
	for _, kind := range kinds {
		for first := range 100 {
			for last := range 100 {
				s := strconv.Itoa(first) + "-" + strconv.Itoa(last)
				asked(t, kind, s)
				asked(t, kind, s+"/"+strconv.Itoa((first+3*last)%62))
			}
		}
		for step := range 130 {
			for _, s := range []string{"*", "1-7", "1-1", "3-12", "0-23", "10-59", "1", "jan", "sun-sat", "5-2"} {
				asked(t, kind, s+"/"+strconv.Itoa(step))
				asked(t, kind, s+"/0"+strconv.Itoa(step))
			}
		}
	}
}

// P6.1: of two faults the first item's one is told; of two in one item ErrItem.
func TestParseFirstFault(t *testing.T) {
	for _, kind := range kinds {
		var l []row
		l = append(l, refused(kind, api.ErrItem, "x,99", "1,x,99", ",99", "100,99", "1/2,5-4", "99-x", "5-4/x", "99/2", "99-", "99-100", "100-99", "5-4/100", "99x", "5-4 ", "0-99/", "*/0x", "*/0/1", "*/60-", "5-4-3", "99-98-1", "*99", "1,99-x", "99-1/x", "1/99", "*/x,*/0")...)
		l = append(l, refused(kind, api.ErrBound, "99,x", "1,99,x", "99,", "99,100", "5-4,1/2", "99,,", "*/0,x", "*/60,", "5-4,5-", "1-2/0,1-2/x", "99-98,x", "1,2,3,99,y,z")...)
		l = append(l, refused(kind, api.ErrLong, "99,"+strings.Repeat("x", 148), "x,"+strings.Repeat("9,", 80))...)
		rows(t, l)
	}
}

// P6.1: all texts of a few signs, one behind the other.
func TestParseAllShort(t *testing.T) {
	for _, kind := range kinds {
		signs := []string{"0", "1", "2", "5", "7", "9", "*", "-", "/", ",", " ", "mon", "Feb", "x"}
		var walk func(s string, left int)
		walk = func(s string, left int) {
			asked(t, kind, s)
			if left == 0 {
				return
			}
			for _, c := range signs {
				walk(s+c, left-1)
			}
		}
		walk("", 4)
	}
}

// some is a text by chance, mostly one that may be.
func some(r *rand.Rand, kind int) string {
	least, most, written := edges(kind)
	number := func() string {
		n := least + r.IntN(written-least+1)
		if r.IntN(40) == 0 {
			n = r.IntN(102)
		}
		for w, m := range words(kind) {
			if m == n && r.IntN(2) == 0 {
				return w
			}
		}
		return strings.Repeat("0", r.IntN(2)*r.IntN(2)) + strconv.Itoa(n)
	}
	var items []string
	for range 1 + r.IntN(6) {
		step := ""
		if r.IntN(2) == 0 {
			step = "/" + strconv.Itoa(1+r.IntN(most))
		}
		switch r.IntN(4) {
		case 0:
			items = append(items, "*"+step)
		case 1:
			items = append(items, number())
		default:
			items = append(items, number()+"-"+number()+step)
		}
	}
	s := strings.Join(items, ",")
	if r.IntN(8) == 0 {
		at := r.IntN(len(s) + 1)
		s = s[:at] + string("0179*-/, xjn\xff"[r.IntN(13)]) + s[min(len(s), at+r.IntN(2)):]
	}
	return s
}

// P6.1: texts by chance.
func TestParseOfMany(t *testing.T) {
	r := rand.New(rand.NewPCG(6, 1))
	for range 60000 {
		kind := r.IntN(5)
		asked(t, kind, some(r, kind))
	}
}

// P6.2: fields that may be, and that may not.
func TestMay(t *testing.T) {
	for _, star := range []bool{false, true} {
		for _, kind := range append(slices.Clone(kinds), noKinds...) {
			for n := range 64 {
				told(t, kind, of(star, n))
				told(t, kind, of(star, 1, n))
				told(t, kind, of(star, 0, n))
				told(t, kind, of(star, span(0, n)...))
				told(t, kind, of(star, span(1, n)...))
				told(t, kind, of(star, span(n, 63)...))
			}
			told(t, kind, of(star))
		}
		for _, x := range []struct {
			kind int
			f    api.Field
			may  bool
		}{
			{api.FdMinute, of(star, 0), true}, {api.FdMinute, of(star, 59), true}, {api.FdMinute, of(star, span(0, 59)...), true}, {api.FdMinute, of(star, 60), false}, {api.FdMinute, of(star, 0, 60), false}, {api.FdMinute, of(star, 0, 63), false},
			{api.FdHour, of(star, 0, 23), true}, {api.FdHour, of(star, 24), false}, {api.FdHour, of(star, 0, 24), false},
			{api.FdDay, of(star, 1, 31), true}, {api.FdDay, of(star, 0), false}, {api.FdDay, of(star, 0, 1), false}, {api.FdDay, of(star, 1, 32), false},
			{api.FdMonth, of(star, 1, 12), true}, {api.FdMonth, of(star, 0, 12), false}, {api.FdMonth, of(star, 13), false}, {api.FdMonth, of(star, 1, 13), false},
			{api.FdWeek, of(star, 0, 6), true}, {api.FdWeek, of(star, 7), false}, {api.FdWeek, of(star, 0, 7), false}, {api.FdWeek, of(star, span(0, 7)...), false}, {api.FdWeek, of(star, 1, 63), false},
			{-1, of(star, 1), false}, {5, of(star, 1), false},
		} {
			if got := field.May(x.kind, x.f); got != x.may {
				t.Errorf("May(%d, %b): %v", x.kind, x.f.Bits, got)
			}
		}
		for _, kind := range kinds {
			if field.May(kind, of(star)) {
				t.Errorf("May(%d, no bit): true", kind)
			}
		}
	}
}

// P6.2: the numbers that are allowed, those beside them, and far ones.
func TestHasAndFirst(t *testing.T) {
	for _, x := range []struct {
		f     api.Field
		n     int
		has   bool
		first int
		ok    bool
	}{
		{of(false, 0, 20, 40), 0, true, 0, true}, {of(false, 0, 20, 40), 1, false, 20, true}, {of(false, 0, 20, 40), 20, true, 20, true}, {of(false, 0, 20, 40), 40, true, 40, true}, {of(false, 0, 20, 40), 41, false, 0, false},
		{of(true, 0, 20, 40), -1, false, 0, true}, {of(false, 5), -1, false, 5, true}, {of(false, 5), math.MinInt, false, 5, true}, {of(false, 5), 6, false, 0, false}, {of(false, 5), 64, false, 0, false}, {of(false, 5), 69, false, 0, false}, {of(false, 5), math.MaxInt, false, 0, false}, {of(false, 5), -59, false, 5, true},
		{of(false, 63), 63, true, 63, true}, {of(false, 63), 64, false, 0, false}, {of(false, 63), 0, false, 63, true}, {of(false, 0), 0, true, 0, true}, {of(false, 0), 1, false, 0, false}, {of(false, 0), 64, false, 0, false}, {of(false, 0), -64, false, 0, true}, {of(false, 0), 128, false, 0, false},
		{of(false), 0, false, 0, false}, {of(true), -1, false, 0, false}, {of(false), 63, false, 0, false}, {of(false, span(0, 63)...), 63, true, 63, true}, {of(false, span(0, 63)...), 64, false, 0, false}, {of(false, span(0, 63)...), -1, false, 0, true},
	} {
		if got := field.Has(x.f, x.n); got != x.has {
			t.Errorf("Has(%b, %d): %v", x.f.Bits, x.n, got)
		}
		if got, ok := field.First(x.f, x.n); got != x.first || ok != x.ok {
			t.Errorf("First(%b, %d): %d, %v; want %d, %v", x.f.Bits, x.n, got, ok, x.first, x.ok)
		}
	}
	r := rand.New(rand.NewPCG(6, 2))
	far := []int{math.MinInt, math.MinInt + 1, -1 << 32, -256, -65, -64, -63, math.MaxInt, math.MaxInt - 1, 1 << 32, 1<<32 + 5, 255, 256, 127, 128}
	for range 2000 {
		f := api.Field{Bits: r.Uint64() & r.Uint64() << r.UintN(64) >> r.UintN(64), Star: r.IntN(2) == 0}
		for n := -3; n < 70; n++ {
			looked(t, f, n)
		}
		for _, n := range far {
			looked(t, f, n)
		}
	}
}

// P6.3: the document's examples, fields that are free and that are not, and runs.
func TestText(t *testing.T) {
	for _, x := range []struct {
		kind int
		f    api.Field
		want string
	}{
		{api.FdMinute, of(true, 0, 20, 40), "0,20,40"}, {api.FdWeek, of(false, span(0, 5)...), "0-5"},
		{api.FdMinute, whole(api.FdMinute, true), "*"}, {api.FdHour, whole(api.FdHour, true), "*"}, {api.FdDay, whole(api.FdDay, true), "*"}, {api.FdMonth, whole(api.FdMonth, true), "*"}, {api.FdWeek, whole(api.FdWeek, true), "*"},
		{api.FdMinute, whole(api.FdMinute, false), "0-59"}, {api.FdHour, whole(api.FdHour, false), "0-23"}, {api.FdDay, whole(api.FdDay, false), "1-31"}, {api.FdMonth, whole(api.FdMonth, false), "1-12"}, {api.FdWeek, whole(api.FdWeek, false), "0-6"},
		{api.FdMinute, of(true, span(1, 59)...), "1-59"}, {api.FdHour, of(true, span(0, 22)...), "0-22"}, {api.FdMinute, of(true, span(0, 23)...), "0-23"}, {api.FdDay, of(true, span(1, 12)...), "1-12"}, {api.FdHour, of(true, span(0, 6)...), "0-6"}, {api.FdMonth, of(true, 5), "5"},
		{api.FdMinute, of(false, 5), "5"}, {api.FdMinute, of(false, 5, 6), "5,6"}, {api.FdMinute, of(false, 5, 6, 7), "5-7"}, {api.FdMinute, of(false, 5, 6, 7, 8), "5-8"}, {api.FdMinute, of(false, 5, 7), "5,7"}, {api.FdMinute, of(false, 5, 7, 9), "5,7,9"},
		{api.FdMinute, of(false, 0, 1, 3, 4, 5, 7, 9, 10, 11, 12, 58, 59), "0,1,3-5,7,9-12,58,59"}, {api.FdMinute, of(false, 8, 9, 10, 11), "8-11"}, {api.FdMinute, of(false, 9, 10), "9,10"}, {api.FdMinute, of(false, 57, 58, 59), "57-59"}, {api.FdMinute, of(false, 0), "0"}, {api.FdMinute, of(false, 59), "59"},
		{api.FdWeek, of(false, 0, 5, 6), "0,5,6"}, {api.FdWeek, of(false, 0, 6), "0,6"}, {api.FdWeek, of(false, 4, 5, 6), "4-6"}, {api.FdMonth, of(false, 1, 2, 12), "1,2,12"},
		{api.FdMinute, of(true), ""}, {api.FdMinute, of(false, 60), ""}, {api.FdWeek, of(true, span(0, 7)...), ""}, {api.FdDay, of(true, span(0, 31)...), ""}, {api.FdMonth, of(false, 0), ""}, {-1, of(true, 1), ""}, {5, of(true, 1), ""}, {5, whole(api.FdWeek, true), ""},
	} {
		if got := field.Text(x.kind, x.f); got != x.want {
			t.Errorf("Text(%d, %b, %v): %q, want %q", x.kind, x.f.Bits, x.f.Star, got, x.want)
		}
		told(t, x.kind, x.f)
	}
}

// P6.2, P6.3, P6.4: all fields of FdWeek and FdMonth, with those beside them, and many of the other kinds.
func TestTextOfAll(t *testing.T) {
	for bits := range uint64(1 << 13) {
		for _, star := range []bool{false, true} {
			for _, kind := range kinds {
				least, _, _ := edges(kind)
				told(t, kind, api.Field{Bits: bits << least, Star: star})
			}
		}
	}
	r := rand.New(rand.NewPCG(6, 3))
	for range 20000 {
		kind := r.IntN(5)
		f := api.Field{Bits: r.Uint64(), Star: r.IntN(2) == 0}
		for range r.IntN(3) {
			f.Bits |= r.Uint64()
		}
		told(t, kind, f)
		f.Bits &= whole(kind, true).Bits
		told(t, kind, f)
	}
}

// P6.4: a text with its items in another order allows the same.
func TestOrder(t *testing.T) {
	r := rand.New(rand.NewPCG(6, 4))
	for range 20000 {
		kind := r.IntN(5)
		s := some(r, kind)
		f, e := field.Parse(kind, s)
		if e != api.OK {
			continue
		}
		items := strings.Split(s, ",")
		r.Shuffle(len(items), func(i, j int) { items[i], items[j] = items[j], items[i] })
		other := strings.Join(items, ",")
		if g, e := field.Parse(kind, other); g.Bits != f.Bits || e != api.OK || g.Star != (items[0][0] == '*') {
			t.Errorf("of the kind %d, %q: %v; %q: %v, %d", kind, s, f, other, g, e)
		}
	}
}

// P1: each call ends and none panics, at all arguments; P6.1 to P6.4 of each.
func FuzzField(f *testing.F) {
	for _, s := range []string{"*", "*/20", "Mon-fri,7", "24", "5-", "mon", "jan-dec/2", "1,2,x", "", ",", "0-7/59", "*/60", "ſun"} {
		for kind := -1; kind <= 5; kind++ {
			f.Add(kind, s, uint64(len(s))<<(kind+1), kind&1 == 0, len(s)-2)
		}
	}
	f.Add(math.MinInt, "\xff", uint64(math.MaxUint64), true, math.MaxInt)
	f.Fuzz(func(t *testing.T, kind int, s string, bits uint64, star bool, n int) {
		asked(t, kind, s)
		asked(t, (kind%5+5)%5, s)
		g := api.Field{Bits: bits, Star: star}
		looked(t, g, n)
		looked(t, g, n%64)
		told(t, kind, g)
		kind = (kind%5 + 5) % 5
		told(t, kind, g)
		g.Bits &= whole(kind, true).Bits
		told(t, kind, g)
	})
}
