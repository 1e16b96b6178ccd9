package job_test

import (
	"bytes"
	"encoding/binary"
	"fmt"
	"math"
	"math/rand/v2"
	"reflect"
	"slices"
	"strings"
	"testing"

	"ringer/api"
	"ringer/cron"
	"ringer/job"
	"ringer/next"
	"ringer/stamp"
)

const (
	last = math.MaxUint64 // the greatest number
	day  = 86400
)

// plain is a job that may be, with as little as there can be.
func plain() api.Job {
	return api.Job{Name: "a", Expr: "@daily", Policy: api.PlSkip, Limit: 1, Timeout: 1}
}

// full is a job that may be, each field of which has something of its own.
func full() api.Job {
	return api.Job{
		Id: 300, Name: "dump", Expr: "5 3 * * 1-5", Policy: api.PlLatest, Grace: 3600, Limit: 4, Retries: 2,
		Timeout: 900, Deps: []uint64{7, 1 << 40, 9}, Paused: true, Version: 130, Seen: 1732000000,
	}
}

// most is a job that may be, each field of which is as great as it can be.
func most() api.Job {
	return api.Job{
		Id: last, Name: strings.Repeat("\xff", 32), Expr: widest(), Policy: 3, Grace: 604800, Limit: 8, Retries: 5,
		Timeout: 86400, Deps: slices.Repeat([]uint64{last}, 8), Paused: true, Version: last, Seen: 13569465599,
	}
}

// widest is an expression's text of 400 bytes: five fields of 78, 80, 80, 80 and 78, with blanks between.
func widest() string {
	return strings.Repeat("0,", 38) + "59" + " " + strings.Repeat("0,", 39) + "23" + " " +
		strings.Repeat("1,", 39) + "31" + " " + strings.Repeat("1,", 39) + "12" + " " + strings.Repeat("0,", 37) + "0-06"
}

// with is a job of which something is changed.
func with(j api.Job, changes ...func(*api.Job)) api.Job {
	for _, c := range changes {
		c(&j)
	}
	return j
}

// none tells whether a result beside an error is the zero value.
func none(j api.Job) bool { return reflect.DeepEqual(j, api.Job{}) }

// refused is why a job may not be, word for word as the chapter tells it; OK, if it may.
func refused(j api.Job) api.Errno {
	if n := len(j.Name); n < 1 || n > 32 {
		return api.ErrName
	}
	if _, e := cron.Parse(j.Expr); e != api.OK {
		return e
	}
	if len(j.Deps) > 8 {
		return api.ErrLong
	}
	if j.Policy != 1 && j.Policy != 2 && j.Policy != 3 {
		return api.ErrArg
	}
	if j.Grace < 0 || j.Grace > 604800 || j.Limit < 1 || j.Limit > 8 || j.Retries < 0 || j.Retries > 5 {
		return api.ErrArg
	}
	if j.Timeout < 1 || j.Timeout > 86400 || j.Seen < -1 || j.Seen > 13569465600-1 {
		return api.ErrArg
	}
	return api.OK
}

// number is a number's bytes, word for word as layer 1 tells them.
func number(n uint64) []byte { return binary.AppendUvarint(nil, n) }

// whole is a whole number's bytes.
func whole(n int64) []byte {
	if n >= 0 {
		return number(2 * uint64(n))
	}
	return number(2*uint64(-(n+1)) + 1)
}

// text is a text's bytes, however long it is.
func text(s string) []byte { return append(number(uint64(len(s))), s...) }

// The places of a job's pieces; behind the Deps they are counted from the end.
const (
	atId = iota
	atName
	atExpr
	atPolicy
	atGrace
	atLimit
	atRetries
	atTimeout
	atCount
	atDeps
)

// pieces are a job's bytes field by field, whether it may be or not.
func pieces(j api.Job) [][]byte {
	l := [][]byte{
		number(j.Id), text(j.Name), text(j.Expr), number(uint64(j.Policy)), number(uint64(j.Grace)),
		number(uint64(j.Limit)), number(uint64(j.Retries)), number(uint64(j.Timeout)), number(uint64(len(j.Deps))),
	}
	for _, d := range j.Deps {
		l = append(l, number(d))
	}
	paused := byte(0)
	if j.Paused {
		paused = 1
	}
	return append(l, []byte{paused}, number(j.Version), whole(j.Seen))
}

// row are a job's bytes, whether it may be or not.
func row(j api.Job) []byte { return bytes.Join(pieces(j), nil) }

// reader takes fields out of bytes; bad, once one is none.
type reader struct {
	b   []byte
	at  int
	bad bool
}

// number takes a number that is as short as it can be.
func (r *reader) number() uint64 {
	n, k := binary.Uvarint(r.b[r.at:])
	if r.bad || k <= 0 || !bytes.Equal(r.b[r.at:r.at+k], number(n)) {
		r.bad = true
		return 0
	}
	r.at += k
	return n
}

// upTo takes a number that is no more than some.
func (r *reader) upTo(most uint64) uint64 {
	n := r.number()
	if n > most {
		r.bad = true
		return 0
	}
	return n
}

func (r *reader) text() string {
	n := r.upTo(4096)
	if r.bad || n > uint64(len(r.b)-r.at) {
		r.bad = true
		return ""
	}
	r.at += int(n)
	return string(r.b[r.at-int(n) : r.at])
}

// parsed is what Parse is to tell, word for word as the chapter tells it.
func parsed(b []byte, at int) (api.Job, int, api.Errno) {
	if at < 0 || at > len(b) {
		return api.Job{}, 0, api.ErrArg
	}
	r := &reader{b: b, at: at}
	j := api.Job{Id: r.number(), Name: r.text(), Expr: r.text()}
	j.Policy, j.Grace = int(r.upTo(3)), int64(r.upTo(604800))
	j.Limit, j.Retries, j.Timeout = int(r.upTo(8)), int(r.upTo(5)), int64(r.upTo(86400))
	for n := r.upTo(8); n > 0; n-- {
		j.Deps = append(j.Deps, r.number())
	}
	j.Paused, j.Version = r.upTo(1) == 1, r.number()
	if n := r.number(); n%2 == 0 {
		j.Seen = int64(n / 2)
	} else {
		j.Seen = -int64(n/2) - 1
	}
	if r.bad || refused(j) != api.OK {
		return api.Job{}, 0, api.ErrBytes
	}
	return j, r.at, api.OK
}

// equal tells whether two jobs are the same: none and an empty list are one.
func equal(a, b api.Job) bool {
	if len(a.Deps) == 0 && len(b.Deps) == 0 {
		a.Deps, b.Deps = nil, nil
	}
	return reflect.DeepEqual(a, b)
}

// checkParse fails unless Parse tells just what it is to.
func checkParse(t testing.TB, what string, b []byte, at int) {
	t.Helper()
	j, n, e := job.Parse(b, at)
	wj, wn, we := parsed(b, at)
	if e != we || n != wn || !equal(j, wj) || (e != api.OK && !none(j)) {
		t.Fatalf("%s: Parse(% x, %d) = %+v, %d, %d; want %+v, %d, %d", what, b, at, j, n, e, wj, wn, we)
	}
}

// checkPut fails unless Put tells just what it is to, and Parse takes it again.
func checkPut(t testing.TB, what string, j api.Job) {
	t.Helper()
	b, e := job.Put(j)
	if w := refused(j); e != w {
		t.Fatalf("%s: Put(%+v): %d; want %d", what, j, e, w)
	}
	if e != api.OK {
		if len(b) != 0 {
			t.Fatalf("%s: Put(%+v): % x beside an error", what, j, b)
		}
		return
	}
	if w := row(j); !bytes.Equal(b, w) {
		t.Fatalf("%s: Put(%+v) = % x; want % x", what, j, b, w)
	}
	k, n, e := job.Parse(b, 0)
	if e != api.OK || n != len(b) || !equal(k, j) || !job.Same(k, j) {
		t.Fatalf("%s: Parse of Put(%+v) = %+v, %d, %d", what, j, k, n, e)
	}
}

// fires is what Fires is to tell, minute for minute.
func fires(j api.Job, from, to int64, most int) (l []int64) {
	if most < 1 || refused(j) != api.OK || to < 0 || to >= 13569465600 || from < -1 {
		return nil
	}
	x, _ := cron.Parse(j.Expr)
	for t := (from + 60) / 60 * 60; t <= to && t > from; t += 60 {
		if c, _ := stamp.Split(t); cron.Fits(x, c) {
			l = append(l, t)
		}
	}
	return l[max(len(l)-most, 0):]
}

// checkFires fails unless Fires tells just what it is to.
func checkFires(t testing.TB, j api.Job, from, to int64, most int) {
	t.Helper()
	if l, w := job.Fires(j, from, to, most), fires(j, from, to, most); !slices.Equal(l, w) {
		t.Fatalf("Fires(%q, %d, %d, %d) = %d; want %d", j.Expr, from, to, most, l, w)
	}
}

// edge is a change of one field of a job that may be, and what May tells of it.
type edge struct {
	what string
	do   func(*api.Job)
	e    api.Errno
}

// edges are the edges of all fields that the chapter names.
func edges() (l []edge) {
	add := func(e api.Errno, what string, do func(*api.Job)) {
		l = append(l, edge{what, do, e})
	}
	for n, e := range map[int]api.Errno{0: 140, 1: 0, 2: 0, 31: 0, 32: 0, 33: 140, 34: 140, 4096: 140, 4097: 140} {
		for _, c := range []string{"a", " ", "\x00", "\xff"} {
			add(e, fmt.Sprintf("a Name of %d bytes", n), func(j *api.Job) { j.Name = strings.Repeat(c, n) })
		}
	}
	// Bytes are counted, not letters: sixteen of two bytes, and one byte more; eleven of three.
	add(0, "16 letters", func(j *api.Job) { j.Name = strings.Repeat("é", 16) })
	add(140, "16 letters and a byte", func(j *api.Job) { j.Name = strings.Repeat("é", 16) + "a" })
	add(140, "11 letters", func(j *api.Job) { j.Name = strings.Repeat("€", 11) })
	for x, e := range exprs() {
		add(e, fmt.Sprintf("an Expr %q", x), func(j *api.Job) { j.Expr = x })
	}
	for n, e := range map[int]api.Errno{0: 0, 1: 0, 7: 0, 8: 0, 9: 3, 10: 3, 65: 3, 1 << 16: 3} {
		for _, id := range []uint64{0, 1, last} {
			add(e, fmt.Sprintf("%d Deps", n), func(j *api.Job) { j.Deps = slices.Repeat([]uint64{id}, n) })
		}
	}
	add(0, "nil Deps", func(j *api.Job) { j.Deps = nil })
	for _, id := range []uint64{0, 1, 127, 128, 1<<63 - 1, 1 << 63, last - 1, last} {
		add(0, "an Id", func(j *api.Job) { j.Id = id })
		add(0, "a Version", func(j *api.Job) { j.Version = id })
		add(0, "a Dep", func(j *api.Job) { j.Deps = []uint64{id} })
	}
	add(0, "itself as a Dep", func(j *api.Job) { j.Deps = []uint64{j.Id} })
	for _, p := range []bool{false, true} {
		add(0, "Paused", func(j *api.Job) { j.Paused = p })
	}
	return append(l, bounds()...)
}

// bounds are the edges of all numbers that have bounds.
func bounds() (l []edge) {
	for _, f := range []struct {
		what      string
		low, high int64
		set       func(*api.Job, int64)
	}{
		{"Policy", 1, 3, func(j *api.Job, n int64) { j.Policy = int(n) }},
		{"Grace", 0, 604800, func(j *api.Job, n int64) { j.Grace = n }},
		{"Limit", 1, 8, func(j *api.Job, n int64) { j.Limit = int(n) }},
		{"Retries", 0, 5, func(j *api.Job, n int64) { j.Retries = int(n) }},
		{"Timeout", 1, 86400, func(j *api.Job, n int64) { j.Timeout = n }},
		{"Seen", -1, 13569465599, func(j *api.Job, n int64) { j.Seen = n }},
	} {
		for _, n := range []int64{
			f.low, f.low + 1, (f.low + f.high) / 2, f.high - 1, f.high, f.low - 1, f.low - 2, f.high + 1, f.high + 2,
			-1, 0, 1, -2, -100, math.MinInt64, math.MinInt64 + 1, math.MaxInt64 - 1, math.MaxInt64,
			math.MinInt32, math.MaxInt32, 1 << 32, 1<<32 + 1, 1<<32 + 2, -1<<32 + 1, 1 << 62, math.MinInt64 + 2,
		} {
			e := api.OK
			if n < f.low || n > f.high {
				e = api.ErrArg
			}
			l = append(l, edge{fmt.Sprintf("a %s of %d", f.what, n), func(j *api.Job) { f.set(j, n) }, e})
		}
	}
	return l
}

// exprs are texts, and what May tells of each.
func exprs() map[string]api.Errno {
	return map[string]api.Errno{
		"* * * * *": 0, "@hourly": 0, "@daily": 0, "@midnight": 0, "@weekly": 0, "@monthly": 0, "@yearly": 0,
		"@annually": 0, "0 0 29 2 *": 0, "0 0 30 2 *": 0, "*/5 1-3 1,15 jan-mar mon": 0, widest(): 0,
		"": 70, "x": 70, "@": 70, "@noon": 70, "@Daily": 70, "@daily ": 70, " @daily": 70, "* * * *": 70,
		"* * * * * *": 70, "*  * * *": 70, " * * * * *": 70, "* * * * * ": 70, "*\t* * * *": 70,
		"x * * * *": 60, "* * * * 1-": 60, "* * * *, *": 60, "*/ * * * *": 60, "é * * * *": 60,
		"60 * * * *": 61, "* 24 * * *": 61, "* * 0 * *": 61, "* * * 13 *": 61, "* * * * 9": 61, "x 60 * * *": 60,
		"60 x * * *": 61, widest() + "0": 3, strings.Repeat("x", 401): 3, "@" + strings.Repeat("x", 400): 3,
		strings.Repeat(" ", 4096): 3, strings.Repeat("*", 4097): 3, strings.Repeat("0", 151) + " * * * *": 3,
	}
}

func TestMay(t *testing.T) {
	for _, e := range edges() {
		for _, base := range []api.Job{plain(), full(), most()} {
			j := with(base, e.do)
			if got := job.May(j); got != e.e {
				t.Errorf("%s: May %d; want %d", e.what, got, e.e)
			}
			if refused(j) != e.e {
				t.Fatalf("%s: the model tells %d; want %d", e.what, refused(j), e.e)
			}
			checkPut(t, e.what, j)
		}
	}
	if e := job.May(api.Job{}); e != api.ErrName {
		t.Errorf("May of no job at all: %d", e)
	}
}

// TestMayFirst holds each fault against all others that are told behind it.
func TestMayFirst(t *testing.T) {
	faults := map[api.Errno][]edge{}
	for _, e := range edges() {
		group := e.e
		if strings.HasPrefix(e.what, "an Expr") && e.e != api.OK {
			group = -1 // any of cron's errors
		}
		faults[group] = append(faults[group], e)
	}
	order := []api.Errno{api.ErrName, -1, api.ErrLong, api.ErrArg}
	for i, g := range order {
		if len(faults[g]) < 3 {
			t.Fatalf("the group %d has %d faults", g, len(faults[g]))
		}
		for _, one := range faults[g] {
			for _, h := range order[i+1:] {
				for _, two := range faults[h] {
					j := with(full(), two.do, one.do)
					if e := job.May(j); e != one.e {
						t.Fatalf("%s and %s: May %d; want %d", one.what, two.what, e, one.e)
					}
				}
			}
		}
	}
	for _, x := range faults[-1] {
		bad := func(j *api.Job) { j.Policy, j.Deps = 9, make([]uint64, 9) }
		j := with(plain(), x.do, bad)
		checkPut(t, x.what, j)
		if e := job.May(j); e != x.e {
			t.Errorf("all but the Name: May %d; want %d", e, x.e)
		}
		if e := job.May(with(j, func(j *api.Job) { j.Name = "" })); e != api.ErrName {
			t.Errorf("all: May %d", e)
		}
		if l := job.Fires(j, -1, 99*day, 9); len(l) != 0 {
			t.Errorf("Fires of a job that may not be: %d", l)
		}
	}
}

// TestExamples are the chapter's.
func TestExamples(t *testing.T) {
	j := plain()
	if e := job.May(j); e != api.OK {
		t.Errorf("May: %d", e)
	}
	if e := job.May(with(j, func(j *api.Job) { j.Name = "" })); e != api.ErrName {
		t.Errorf("May without a Name: %d", e)
	}
	if e := job.May(with(j, func(j *api.Job) { j.Expr = "x" })); e != api.ErrFields {
		t.Errorf("May with Expr x: %d", e)
	}
	if l := job.Fires(j, -1, 172800, 9); !slices.Equal(l, []int64{0, 86400, 172800}) {
		t.Errorf("Fires: %d", l)
	}
	if l := job.Fires(j, -1, 172800, 2); !slices.Equal(l, []int64{86400, 172800}) {
		t.Errorf("Fires of 2: %d", l)
	}
}

// changes are changes of full, by which it is another job, each of one field alone.
func changes() map[string]func(*api.Job) {
	return map[string]func(*api.Job){
		"Id":          func(j *api.Job) { j.Id++ },
		"Name":        func(j *api.Job) { j.Name = "dumq" },
		"Expr":        func(j *api.Job) { j.Expr = "5 3 * * mon-fri" }, // the same firings, another text
		"Policy":      func(j *api.Job) { j.Policy = 2 },
		"Grace":       func(j *api.Job) { j.Grace++ },
		"Limit":       func(j *api.Job) { j.Limit++ },
		"Retries":     func(j *api.Job) { j.Retries++ },
		"Timeout":     func(j *api.Job) { j.Timeout-- },
		"Deps":        func(j *api.Job) { j.Deps = []uint64{7, 1<<40 + 1, 9} },
		"Deps0":       func(j *api.Job) { j.Deps = []uint64{8, 1 << 40, 9} },
		"Deps2":       func(j *api.Job) { j.Deps = []uint64{7, 1 << 40, 9 + 1<<63} },
		"fewer":       func(j *api.Job) { j.Deps = []uint64{7, 1 << 40} },
		"more":        func(j *api.Job) { j.Deps = []uint64{7, 1 << 40, 9, 9} },
		"more0":       func(j *api.Job) { j.Deps = []uint64{7, 1 << 40, 9, 0} },
		"noDeps":      func(j *api.Job) { j.Deps = nil },
		"order":       func(j *api.Job) { j.Deps = []uint64{1 << 40, 7, 9} },
		"order2":      func(j *api.Job) { j.Deps = []uint64{9, 1 << 40, 7} },
		"Paused":      func(j *api.Job) { j.Paused = false },
		"Version":     func(j *api.Job) { j.Version-- },
		"Seen":        func(j *api.Job) { j.Seen = -1 },
		"Name case":   func(j *api.Job) { j.Name = "Dump" },
		"Name end":    func(j *api.Job) { j.Name = "dump\x00" },
		"far Id":      func(j *api.Job) { j.Id += 1 << 63 },
		"far Seen":    func(j *api.Job) { j.Seen += 1 << 62 },
		"far Grace":   func(j *api.Job) { j.Grace -= 1 << 62 },
		"far Timeout": func(j *api.Job) { j.Timeout += 1 << 40 },
		"far Limit":   func(j *api.Job) { j.Limit = math.MinInt },
	}
}

func TestSame(t *testing.T) {
	all := map[string]api.Job{"full": full(), "plain": plain(), "most": most(), "none": {}}
	fields := map[string]bool{}
	for what, c := range changes() {
		all[what] = with(full(), c)
		// What differs is one field alone, so that each field is asked by itself.
		a, b := reflect.ValueOf(full()), reflect.ValueOf(all[what])
		n := 0
		for i := range a.NumField() {
			if !reflect.DeepEqual(a.Field(i).Interface(), b.Field(i).Interface()) {
				fields[a.Type().Field(i).Name] = true
				n++
			}
		}
		if n != 1 {
			t.Fatalf("%s: %d fields differ", what, n)
		}
	}
	if n := reflect.TypeFor[api.Job]().NumField(); len(fields) != n {
		t.Fatalf("%d of %d fields are changed", len(fields), n)
	}
	for a, x := range all {
		for b, y := range all {
			y.Deps = slices.Clone(y.Deps) // the same, at another place
			if job.Same(x, y) != (a == b) {
				t.Errorf("Same of %s, %s: %v", a, b, a != b)
			}
		}
	}
}

// TestSameNone: none and an empty list are one; of jobs that may not be it is asked, too.
func TestSameNone(t *testing.T) {
	lists := [][]uint64{nil, {}, make([]uint64, 0, 9), full().Deps[:0]}
	for _, base := range []api.Job{plain(), full(), {}, {Policy: -1, Seen: math.MinInt64}} {
		for _, a := range lists {
			for _, b := range lists {
				x, y := base, base
				x.Deps, y.Deps = a, b
				if !job.Same(x, y) {
					t.Errorf("Same of Deps %#v, %#v: false", a, b)
				}
			}
			x, y := base, base
			x.Deps, y.Deps = a, []uint64{0}
			if job.Same(x, y) || job.Same(y, x) {
				t.Errorf("Same of Deps %#v, and of one 0: true", a)
			}
		}
	}
	many := with(full(), func(j *api.Job) { j.Deps = make([]uint64, 1<<16) })
	more := with(full(), func(j *api.Job) { j.Deps = make([]uint64, 1<<16+1) })
	off := with(full(), func(j *api.Job) { j.Deps = make([]uint64, 1<<16); j.Deps[1<<16-1] = 1 })
	if !job.Same(many, many) || job.Same(many, more) || job.Same(more, many) || job.Same(many, off) {
		t.Error("Same of very many Deps")
	}
}

// TestPut holds the bytes against some written out by hand.
func TestPut(t *testing.T) {
	for _, x := range []struct {
		j api.Job
		b string
	}{
		{plain(), "\x00" + "\x01a" + "\x06@daily" + "\x01" + "\x00" + "\x01" + "\x00" + "\x01" + "\x00" + "\x00" + "\x00" + "\x00"},
		{full(), "\xac\x02" + "\x04dump" + "\x0b5 3 * * 1-5" + "\x03" + "\x90\x1c" + "\x04" + "\x02" + "\x84\x07" +
			"\x03" + "\x07" + "\x80\x80\x80\x80\x80\x20" + "\x09" + "\x01" + "\x82\x01" + "\x80\xe4\xe1\xf3\x0c"},
		{with(plain(), func(j *api.Job) { j.Seen = -1 }),
			"\x00" + "\x01a" + "\x06@daily" + "\x01" + "\x00" + "\x01" + "\x00" + "\x01" + "\x00" + "\x00" + "\x00" + "\x01"},
		{with(plain(), func(j *api.Job) { j.Seen, j.Paused, j.Id, j.Deps = 1, true, 5, []uint64{} }),
			"\x05" + "\x01a" + "\x06@daily" + "\x01" + "\x00" + "\x01" + "\x00" + "\x01" + "\x00" + "\x01" + "\x00" + "\x02"},
	} {
		b, e := job.Put(x.j)
		if e != api.OK || string(b) != x.b {
			t.Errorf("Put(%+v) = %x, %d; want %x", x.j, b, e, x.b)
		}
		if w := row(x.j); string(w) != x.b {
			t.Fatalf("the model tells %x; want %x", w, x.b)
		}
		checkPut(t, "by hand", x.j)
	}
	checkPut(t, "the greatest", most())
	if n := len(widest()); n != 400 {
		t.Fatalf("the widest text has %d bytes", n)
	}
	checkPut(t, "no job", api.Job{})
}

// TestParseAt asks at each place, and at such as are none.
func TestParseAt(t *testing.T) {
	for _, j := range []api.Job{plain(), full(), most()} {
		b := row(j)
		for _, at := range []int{-1, -2, math.MinInt, math.MinInt + 1, len(b) + 1, len(b) + 2, math.MaxInt, math.MaxInt - 1} {
			k, n, e := job.Parse(b, at)
			if e != api.ErrArg || n != 0 || !none(k) {
				t.Errorf("Parse at %d: %+v, %d, %d", at, k, n, e)
			}
		}
		if k, n, e := job.Parse(b, len(b)); e != api.ErrBytes || n != 0 || !none(k) {
			t.Errorf("Parse just at the end: %+v, %d, %d", k, n, e)
		}
		for at := range len(b) + 1 {
			checkParse(t, "at each place", b, at)
		}
	}
	for _, b := range [][]byte{nil, {}, make([]byte, 0, 99)} {
		if k, n, e := job.Parse(b, 0); e != api.ErrBytes || n != 0 || !none(k) {
			t.Errorf("Parse of none: %+v, %d, %d", k, n, e)
		}
		for _, at := range []int{-1, 1} {
			if _, _, e := job.Parse(b, at); e != api.ErrArg {
				t.Errorf("Parse of none at %d: %d", at, e)
			}
		}
	}
}

// TestParseBetween has all kinds of bytes ahead, and behind.
func TestParseBetween(t *testing.T) {
	jobs := []api.Job{plain(), full(), most()}
	for _, e := range edges() {
		if e.e == api.OK {
			jobs = append(jobs, with(full(), e.do))
		}
	}
	arounds := [][]byte{nil, {0}, {1}, {255}, {128}, bytes.Repeat([]byte{0}, 40), bytes.Repeat([]byte{255}, 40), row(plain())}
	for _, j := range jobs {
		b, _ := job.Put(j)
		for _, ahead := range arounds {
			for _, behind := range arounds {
				all := slices.Concat(ahead, b, behind)
				k, n, e := job.Parse(all, len(ahead))
				if e != api.OK || n != len(ahead)+len(b) || !equal(k, j) {
					t.Fatalf("Parse of %+v, % x ahead, % x behind: %+v, %d, %d", j, ahead, behind, k, n, e)
				}
			}
		}
	}
}

// TestParseCut has jobs' bytes that are not all there.
func TestParseCut(t *testing.T) {
	for _, j := range []api.Job{plain(), full(), most()} {
		b := row(j)
		for n := range len(b) {
			k, m, e := job.Parse(b[:n:n], 0)
			if e != api.ErrBytes || m != 0 || !none(k) {
				t.Fatalf("cut at %d: %+v, %d, %d", n, k, m, e)
			}
			// What was cut off stands behind, where it is not to be looked for.
			if _, _, e := job.Parse(b[:n], 0); e != api.ErrBytes {
				t.Fatalf("cut at %d, with capacity: %d", n, e)
			}
		}
	}
}

// TestParseSpoilt has each byte changed into all others, one put in, one left out.
func TestParseSpoilt(t *testing.T) {
	for _, j := range []api.Job{plain(), full()} {
		b := row(j)
		for i := range len(b) {
			for v := range 256 {
				c := slices.Clone(b)
				c[i] = byte(v)
				checkParse(t, "changed", c, 0)
				checkParse(t, "put in", slices.Insert(slices.Clone(b), i, byte(v)), 0)
			}
			checkParse(t, "left out", slices.Delete(slices.Clone(b), i, i+1), 0)
			checkParse(t, "left out, with more behind", append(slices.Delete(slices.Clone(b), i, i+1), 0, 0, 0), 0)
		}
	}
}

// TestParseLonger has numbers that are not as short as they can be, in each place.
func TestParseLonger(t *testing.T) {
	for _, j := range []api.Job{plain(), full(), most()} {
		l := pieces(j)
		for i, p := range l {
			head := number(uint64(len(p) - 1))
			if i != atName && i != atExpr {
				head = p
			} else if _, k := binary.Uvarint(p); k > 0 {
				head = p[:k]
			}
			for zeros := 1; zeros < 11; zeros++ {
				long := slices.Clone(head)
				for range zeros {
					long[len(long)-1] |= 128
					long = append(long, 0)
				}
				c := slices.Clone(l)
				c[i] = append(long, p[len(head):]...)
				b := bytes.Join(c, nil)
				if k, n, e := job.Parse(b, 0); e != api.ErrBytes || n != 0 || !none(k) {
					t.Fatalf("piece %d with %d zeros: %+v, %d, %d", i, zeros, k, n, e)
				}
				checkParse(t, "longer", b, 0)
			}
			over := slices.Clone(l) // 2^64, and without an end
			for _, o := range [][]byte{
				append(bytes.Repeat([]byte{128}, 9), 2), append(bytes.Repeat([]byte{255}, 9), 127), bytes.Repeat([]byte{255}, 99),
			} {
				over[i] = append(slices.Clone(o), p[len(head):]...)
				if _, _, e := job.Parse(bytes.Join(over, nil), 0); e != api.ErrBytes {
					t.Fatalf("piece %d beyond all numbers: %d", i, e)
				}
			}
		}
	}
}

// TestParseAhead has a piece that is none, and what would go on well at the beginning of all bytes.
func TestParseAhead(t *testing.T) {
	for _, j := range []api.Job{plain(), full(), most()} {
		l := pieces(j)
		for i := range l {
			for _, k := range []int{i, i + 1} {
				rest := bytes.Join(l[k:], nil)
				for _, bad := range [][]byte{nil, {128}, {128, 0}, bytes.Repeat([]byte{255}, 11)} {
					b := slices.Concat(rest, bytes.Join(l[:i], nil), bad)
					checkParse(t, "ahead", b, len(rest))
					if _, _, e := job.Parse(b, len(rest)); e != api.ErrBytes {
						t.Fatalf("the piece %d is none: %d", i, e)
					}
				}
			}
		}
	}
}

// TestParseBounds has numbers in each place that are a job's, and such as are none.
func TestParseBounds(t *testing.T) {
	numbers := []uint64{
		0, 1, 2, 3, 4, 5, 6, 7, 8, 9, 10, 64, 127, 128, 255, 256, 257, 900, 65536, 65537, 86399, 86400, 86401, 604799,
		604800, 604801, 1 << 31, 1<<32 - 1, 1 << 32, 1<<32 + 1, 1<<32 + 2, 1<<33 + 3, 27138931197, 27138931198,
		27138931199, 27138931200, 27138931201, 1<<62 + 1, 1<<63 - 1, 1 << 63, 1<<63 + 1, 1<<63 + 2, last - 1, last,
	}
	for _, j := range []api.Job{plain(), full(), most()} {
		l := pieces(j)
		for i := range l {
			taken := 0
			for _, n := range numbers {
				c := slices.Clone(l)
				c[i] = number(n)
				b := bytes.Join(c, nil)
				checkParse(t, fmt.Sprintf("%d in the place %d", n, i), b, 0)
				checkParse(t, fmt.Sprintf("%d in the place %d, more behind", n, i), append(b, make([]byte, 9000)...), 0)
				if _, _, e := job.Parse(b, 0); e == api.OK {
					taken++
				}
			}
			want := map[int]int{atPolicy: 3, atLimit: 8, atRetries: 6}
			if w, ok := want[i]; ok && taken != w {
				t.Errorf("place %d: %d numbers are taken; want %d", i, taken, w)
			}
			if free := i == atId || (i >= atDeps && i < len(l)-3) || i == len(l)-2; free && taken != len(numbers) {
				t.Errorf("place %d: %d of %d numbers are taken", i, taken, len(numbers))
			}
		}
	}
}

// TestParseDeps has more Deps than there may be, and counts that are not those of the Deps behind.
func TestParseDeps(t *testing.T) {
	for _, n := range []int{0, 1, 7, 8, 9, 10, 64, 127, 128, 1 << 12, 1 << 16} {
		for _, id := range []uint64{0, 1, last} {
			b := row(with(full(), func(j *api.Job) { j.Deps = slices.Repeat([]uint64{id}, n) }))
			k, _, e := job.Parse(b, 0)
			if ok := n <= 8; ok != (e == api.OK) || (ok && len(k.Deps) != n) {
				t.Errorf("%d Deps: %d, %d", n, len(k.Deps), e)
			}
			checkParse(t, "Deps", b, 0)
		}
	}
	for _, n := range []uint64{9, 100, 1 << 16, 1 << 31, 1 << 32, 1<<32 + 1, 1 << 62, 1 << 63, last} {
		l := pieces(plain())
		l[atCount] = number(n)
		if _, _, e := job.Parse(bytes.Join(l, nil), 0); e != api.ErrBytes {
			t.Errorf("a count of %d: %d", n, e)
		}
	}
}

// TestParseTexts has texts that are longer than the bytes behind, and than they may be.
func TestParseTexts(t *testing.T) {
	for _, j := range []api.Job{plain(), full(), most()} {
		l := pieces(j)
		for _, i := range []int{atName, atExpr} {
			for _, n := range []uint64{
				0, 1, 2, 31, 32, 33, 100, 399, 400, 401, 4095, 4096, 4097, 1 << 31, 1 << 32, 1<<32 + 1, 1 << 62, 1<<63 - 1, 1 << 63, last,
			} {
				c := slices.Clone(l)
				c[i] = number(n)
				b := bytes.Join(c, nil)
				checkParse(t, "a text that runs into what follows", b, 0)
				c[i] = slices.Concat(number(n), make([]byte, min(n, 5000)))
				checkParse(t, "a text of zeros", bytes.Join(c, nil), 0)
			}
		}
	}
	for _, e := range edges() {
		j := with(full(), e.do)
		b := row(j)
		checkParse(t, e.what, b, 0)
		checkParse(t, e.what+", more behind", append(b, 9, 9), 0)
		if _, _, got := job.Parse(b, 0); (e.e == api.OK) != (got == api.OK) {
			t.Errorf("bytes of %s: %d", e.what, got)
		}
	}
}

// sampled are expressions of all kinds: often, seldom, never, with a free day and without.
var sampled = []string{
	"* * * * *", "@hourly", "@daily", "@weekly", "@monthly", "*/7 * * * *", "59 23 * * *", "1 0 * * *", "0 12 */2 * mon",
	"30 6 1,15 * *", "0 0 13 * fri", "0 0 1 1 *", "0 0 29 2 *", "0 0 30 2 *", "0-2,58,59 0,23 * * *",
}

// newest are those of all firings that Fires is to tell.
func newest(all []int64, from, to int64, most int) (l []int64) {
	if most < 1 || to < 0 || to >= 13569465600 || from < -1 {
		return nil
	}
	for _, at := range all {
		if at > from && at <= to {
			l = append(l, at)
		}
	}
	return l[max(len(l)-most, 0):]
}

func TestFires(t *testing.T) {
	begins := []int64{0, 951696000, 1732000000, 13569465600 - 3*day}
	for _, x := range sampled {
		j := with(plain(), func(j *api.Job) { j.Expr = x })
		for _, begin := range begins {
			walked := fires(j, max(begin-61, -1), min(begin+3*day, api.MaxTime-1), math.MaxInt)
			n := len(walked)
			for _, most := range []int{math.MinInt, -1, 0, 1, 2, 3, n - 1, n, n + 1, 32, math.MaxInt - 1, math.MaxInt} {
				for _, to := range []int64{-1, begin - 1, begin, begin + 1, begin + 59, begin + 60, begin + day, begin + 3*day - 1, begin + 3*day} {
					for _, from := range []int64{math.MinInt64, -2, -1, begin - 60, begin - 1, begin, begin + 1, begin + 59, begin + 60, begin + day} {
						if from >= -1 && from < begin-60 {
							continue // that was not walked over
						}
						l, w := job.Fires(j, from, to, most), newest(walked, from, to, most)
						if !slices.Equal(l, w) {
							t.Fatalf("Fires(%q, %d, %d, %d) = %d; want %d", x, from, to, most, l, w)
						}
					}
				}
			}
		}
	}
}

// TestFiresEdges has times whose ends are just a firing, just ahead of it, just behind it.
func TestFiresEdges(t *testing.T) {
	for _, x := range []string{"@daily", "17 */6 * * *", "* * * * *", "@hourly"} {
		j := with(plain(), func(j *api.Job) { j.Expr = x })
		l := fires(j, 40*day, 42*day, math.MaxInt)
		l = l[:min(len(l), 5)]
		for _, a := range l {
			for _, b := range l {
				for _, off := range []int64{-60, -59, -1, 0, 1, 59, 60} {
					for _, end := range []int64{-60, -1, 0, 1, 60} {
						for _, most := range []int{1, 2, 3, 99} {
							checkFires(t, j, a+off, b+end, most)
						}
					}
				}
			}
		}
	}
	j := plain()
	for _, x := range []struct {
		from, to int64
		most     int
		want     []int64
	}{
		{0, day, 9, []int64{day}}, {-1, day, 9, []int64{0, day}}, {-1, 0, 9, []int64{0}}, {-1, 0, 1, []int64{0}},
		{-1, 0, 0, nil}, {-1, -1, 9, nil}, {0, 0, 9, nil}, {-2, 2 * day, 9, nil}, {math.MinInt64, day, 9, nil},
		{day, day, 9, nil}, {day, 0, 9, nil}, {day - 1, day, 9, []int64{day}}, {day - 1, day - 1, 9, nil},
		{0, day - 1, 9, nil}, {0, math.MaxInt64, 9, nil}, {0, 13569465600, 9, nil}, {0, math.MinInt64, 9, nil},
		{13569465599, 13569465599, 9, nil}, {math.MaxInt64, 13569465599, 9, nil}, {13569465600, 13569465599, 9, nil},
		{-1, 13569465599, 2, []int64{13569465600 - 2*day, 13569465600 - day}},
		{13569465600 - day - 1, 13569465599, 9, []int64{13569465600 - day}}, {13569465600 - day, 13569465599, 9, nil},
	} {
		if l := job.Fires(j, x.from, x.to, x.most); !slices.Equal(l, x.want) {
			t.Errorf("Fires(%d, %d, %d) = %d; want %d", x.from, x.to, x.most, l, x.want)
		}
	}
}

// TestFiresFar has all time, in which the newest are to be found without going over all.
func TestFiresFar(t *testing.T) {
	const end = api.MaxTime - 1
	for _, x := range sampled {
		j := with(plain(), func(j *api.Job) { j.Expr = x })
		f, _ := cron.Parse(x)
		begin := int64(-1)
		if n, _ := next.Count(f, 0, 9*day, 99); n > 10 {
			begin = api.MaxTime - 20*day // there would be very many
		}
		var all []int64
		for at := range next.All(f, max(begin, 0), end) {
			all = append(all, at)
		}
		if c, _ := stamp.Split(0); begin < 0 && cron.Fits(f, c) {
			all = append([]int64{0}, all...)
		}
		for _, most := range []int{1, 2, 32, 100} {
			if l := job.Fires(j, -1, end, most); !slices.Equal(l, all[max(len(all)-most, 0):]) {
				t.Errorf("Fires(%q) of all time, %d: %d", x, most, l)
			}
		}
		if l := job.Fires(j, begin, end, math.MaxInt); !slices.Equal(l, all) {
			t.Errorf("Fires(%q) from %d on: %d; want %d", x, begin, len(l), len(all))
		}
	}
	if l := job.Fires(plain(), -1, end, math.MaxInt); len(l) != api.MaxDays || l[0] != 0 || l[1] != day {
		t.Errorf("all days: %d", len(l))
	}
}

// TestFiresFields: nothing but Expr is asked, as long as the job may be.
func TestFiresFields(t *testing.T) {
	all := fires(full(), -1, 30*day, 9)
	for _, e := range edges() {
		if strings.HasPrefix(e.what, "an Expr") {
			continue
		}
		j := with(full(), e.do)
		l, want := job.Fires(j, -1, 30*day, 9), all
		if e.e != api.OK {
			want = nil
		}
		if !slices.Equal(l, want) {
			t.Errorf("Fires with %s: %d; want %d", e.what, l, want)
		}
	}
	for x, e := range exprs() {
		j := with(full(), func(j *api.Job) { j.Expr = x })
		if l := job.Fires(j, 0, 800*day, 2); e != api.OK && len(l) != 0 {
			t.Errorf("Fires with the Expr %q: %d", x, l)
		}
	}
}

// TestFiresCut: those of a time cut in two are those of its parts.
func TestFiresCut(t *testing.T) {
	chance := rand.New(rand.NewPCG(14, 1))
	for _, x := range sampled {
		j := with(full(), func(j *api.Job) { j.Expr = x })
		for range 200 {
			from := chance.Int64N(api.MaxTime) - 1
			to := min(from+chance.Int64N(1<<chance.IntN(22)+1), api.MaxTime-1)
			if chance.IntN(9) == 0 {
				from, to = -1, chance.Int64N(9*day)
			}
			most := 1 + chance.IntN(40)
			all := job.Fires(j, from, to, most)
			mids := []int64{from, to}
			if to > from {
				mids = append(mids, from+chance.Int64N(to-from+1))
			}
			for _, at := range all {
				mids = append(mids, at, at+1, at+30, at-1)
			}
			for _, mid := range mids {
				if mid < from || mid > to {
					continue
				}
				l := append(job.Fires(j, from, mid, most), job.Fires(j, mid, to, most)...)
				if l = l[max(len(l)-most, 0):]; !slices.Equal(l, all) {
					t.Fatalf("Fires(%q, %d, %d, %d), cut at %d: %d; want %d", x, from, to, most, mid, l, all)
				}
			}
		}
	}
}

// TestNothingIsChanged: nothing handed in is changed, and nothing told is kept.
func TestNothingIsChanged(t *testing.T) {
	deps := append(make([]uint64, 0, 20), 7, 8, 9)
	for i := range deps[:cap(deps)][3:] {
		deps[:cap(deps)][3+i] = 77
	}
	j := with(full(), func(j *api.Job) { j.Deps = deps })
	was := slices.Clone(deps[:cap(deps)])
	b, _ := job.Put(j)
	wide := append(make([]byte, 0, 3*len(b)), b...)
	for i := range wide[len(b):cap(wide)] {
		wide[:cap(wide)][len(b)+i] = 55
	}
	whole := slices.Clone(wide[:cap(wide)])
	k, n, e := job.Parse(wide, 0)
	_ = append(k.Deps, 1, 2, 3)
	job.May(j)
	job.Same(j, k)
	one, two := job.Fires(j, -1, 99*day, 9), job.Fires(j, -1, 99*day, 9)
	if e != api.OK || n != len(b) || !slices.Equal(deps[:cap(deps)], was) || !bytes.Equal(wide[:cap(wide)], whole) {
		t.Fatal("what was handed in was changed")
	}
	// What was told, changed behind, changes nothing else.
	for i := range one[:cap(one)] {
		one[:cap(one)][i] = -5
	}
	if three := job.Fires(j, -1, 99*day, 9); !slices.Equal(two, three) || !slices.Equal(two, fires(j, -1, 99*day, 9)) {
		t.Errorf("Fires, behind changed ones: %d", three)
	}
	c, _ := job.Put(j)
	clear(c[:cap(c)])
	if d, _ := job.Put(j); !bytes.Equal(d, b) || !slices.Equal(deps, []uint64{7, 8, 9}) {
		t.Errorf("Put, behind changed bytes: % x", d)
	}
	l, _, _ := job.Parse(wide, 0)
	for i := range k.Deps[:cap(k.Deps)] {
		k.Deps[:cap(k.Deps)][i] = 0
	}
	if !equal(l, j) || !bytes.Equal(wide, b) {
		t.Errorf("Parse, behind changed Deps: %+v", l)
	}
	clear(wide)
	if !equal(l, j) {
		t.Errorf("a job, behind changed bytes: %+v", l)
	}
	clear(deps)
	if !equal(l, with(j, func(j *api.Job) { j.Deps = []uint64{7, 8, 9} })) {
		t.Errorf("a job, behind changed Deps: %+v", l)
	}
}

// chanced is a job by chance, which may be but now and then.
func chanced(chance *rand.Rand, faults int) api.Job {
	far := func() uint64 { return chance.Uint64() >> chance.IntN(64) }
	name := make([]byte, 1+chance.IntN(32))
	for i := range name {
		name[i] = byte(chance.Uint32())
	}
	j := api.Job{
		Id: far(), Name: string(name), Expr: sampled[chance.IntN(len(sampled))], Policy: 1 + chance.IntN(3),
		Grace: chance.Int64N(604801), Limit: 1 + chance.IntN(8), Retries: chance.IntN(6), Timeout: 1 + chance.Int64N(86400),
		Paused: chance.IntN(2) == 0, Version: far(), Seen: chance.Int64N(api.MaxTime+1) - 1,
	}
	for range chance.IntN(9) {
		j.Deps = append(j.Deps, far())
	}
	all := edges()
	for range faults {
		all[chance.IntN(len(all))].do(&j)
	}
	return j
}

func TestByChance(t *testing.T) {
	chance := rand.New(rand.NewPCG(14, 2))
	for i := range 3000 {
		j := chanced(chance, i%4)
		if e, w := job.May(j), refused(j); e != w {
			t.Fatalf("May(%+v) = %d; want %d", j, e, w)
		}
		checkPut(t, "by chance", j)
		b := row(j)
		for range 20 {
			c := slices.Clone(b)
			for range chance.IntN(3) {
				c[chance.IntN(len(c))] = byte(chance.Uint32())
			}
			if chance.IntN(3) == 0 {
				c = c[:chance.IntN(len(c)+1)]
			}
			ahead := make([]byte, chance.IntN(9))
			checkParse(t, "by chance", append(ahead, c...), len(ahead))
			checkParse(t, "by chance, somewhere", c, chance.IntN(len(c)+3)-1)
		}
		from := chance.Int64N(9*day) - 2
		if chance.IntN(3) == 0 {
			from = chance.Int64N(api.MaxTime + day)
		}
		checkFires(t, j, from, from+chance.Int64N(day*3)-50, chance.IntN(40)-2)
	}
}

// TestManyAsked: Parse of each of very many places of bytes ends soon.
func TestManyAsked(t *testing.T) {
	b := bytes.Repeat([]byte{1, 'a', 9, 0, 255, 128}, 1<<12)
	for at := range len(b) + 1 {
		checkParse(t, "many", b, at)
	}
}

func FuzzJob(f *testing.F) {
	for _, j := range []api.Job{plain(), full(), most()} {
		f.Add(row(j), 0, int64(-1), int64(172800), 9)
	}
	f.Add([]byte{0, 1, 'a', 0}, 3, int64(0), int64(0), 0)
	f.Fuzz(func(t *testing.T, b []byte, at int, from, to int64, most int) {
		was := slices.Clone(b)
		checkParse(t, "fuzz", b, at)
		j, n, e := job.Parse(b, at)
		if !bytes.Equal(b, was) {
			t.Fatal("Parse changed its bytes")
		}
		if e != api.OK {
			return
		}
		checkPut(t, "fuzz", j)
		if c, _ := job.Put(j); !bytes.Equal(c, b[at:n]) {
			t.Fatalf("Put of what was parsed: % x; want % x", c, b[at:n])
		}
		if to-from > 3*day || to-from < 0 {
			from = to - 3*day
		}
		checkFires(t, j, from, to, most)
	})
}
