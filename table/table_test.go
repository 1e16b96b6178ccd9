package table_test

import (
	"fmt"
	"math"
	"math/rand/v2"
	"reflect"
	"slices"
	"strings"
	"testing"

	"ringer/api"
	"ringer/job"
	"ringer/table"
)

const (
	big     = math.MaxUint64 // the greatest number
	maxTime = 13569465600    // the first moment that may not be
	most    = 32             // how many jobs there are at most
)

// plain is a job that may be, with as little as there can be.
func plain(name string, deps ...uint64) api.Job {
	return api.Job{Name: name, Expr: "@daily", Policy: 1, Limit: 1, Timeout: 60, Deps: deps, Seen: -1}
}

// full is a job that may be, each field of which has something of its own.
func full(name string, deps ...uint64) api.Job {
	return api.Job{
		Id: 77, Name: name, Expr: "5 3 * * 1-5", Policy: 3, Grace: 3600, Limit: 4, Retries: 2, Timeout: 900,
		Deps: deps, Paused: true, Version: 130, Seen: 1732000000,
	}
}

// with is a job of which something is changed.
func with(j api.Job, changes ...func(*api.Job)) api.Job {
	j.Deps = slices.Clone(j.Deps)
	for _, c := range changes {
		c(&j)
	}
	return j
}

// numbered is a job of a number.
func numbered(id uint64, j api.Job) api.Job {
	j.Id = id
	return j
}

// fault is what is wrong with a job, and what is told of it.
type fault struct {
	what string
	do   func(*api.Job)
	e    api.Errno
}

// faults are faults of a job alone, of each kind, those that are told first ahead.
func faults() []fault {
	return []fault{
		{"no Name", func(j *api.Job) { j.Name = "" }, api.ErrName},
		{"a Name of 33 bytes", func(j *api.Job) { j.Name = strings.Repeat("n", 33) }, api.ErrName},
		{"no Expr", func(j *api.Job) { j.Expr = "" }, api.ErrFields},
		{"four fields", func(j *api.Job) { j.Expr = "* * * *" }, api.ErrFields},
		{"a field that is none", func(j *api.Job) { j.Expr = "* * x * *" }, api.ErrItem},
		{"a field that is beyond", func(j *api.Job) { j.Expr = "61 * * * *" }, api.ErrBound},
		{"an Expr of 401 bytes", func(j *api.Job) { j.Expr = strings.Repeat("*", 401) }, api.ErrLong},
		{"nine Deps", func(j *api.Job) { j.Deps = []uint64{1, 2, 3, 4, 5, 6, 7, 8, 9} }, api.ErrLong},
		{"a Policy of 0", func(j *api.Job) { j.Policy = 0 }, api.ErrArg},
		{"a Policy of 4", func(j *api.Job) { j.Policy = 4 }, api.ErrArg},
		{"a Grace of -1", func(j *api.Job) { j.Grace = -1 }, api.ErrArg},
		{"a Grace of 604801", func(j *api.Job) { j.Grace = 604801 }, api.ErrArg},
		{"a Limit of 0", func(j *api.Job) { j.Limit = 0 }, api.ErrArg},
		{"a Limit of 9", func(j *api.Job) { j.Limit = 9 }, api.ErrArg},
		{"Retries of -1", func(j *api.Job) { j.Retries = -1 }, api.ErrArg},
		{"Retries of 6", func(j *api.Job) { j.Retries = 6 }, api.ErrArg},
		{"a Timeout of 0", func(j *api.Job) { j.Timeout = 0 }, api.ErrArg},
		{"a Timeout of 86401", func(j *api.Job) { j.Timeout = 86401 }, api.ErrArg},
		{"a Seen of -2", func(j *api.Job) { j.Seen = -2 }, api.ErrArg},
		{"a Seen of MaxTime", func(j *api.Job) { j.Seen = maxTime }, api.ErrArg},
	}
}

// one is one fault of each error that a job alone may have.
func one() (l []fault) {
	for _, f := range faults() {
		if !slices.ContainsFunc(l, func(o fault) bool { return o.e == f.e }) {
			l = append(l, f)
		}
	}
	return l
}

// model is a table as the chapter's words have it; its calls tell another one, and change nothing.
type model struct {
	jobs []api.Job // by their numbers
	last uint64
}

// place is where the job of a number stands; -1, if there is none.
func (m model) place(id uint64) int {
	return slices.IndexFunc(m.jobs, func(j api.Job) bool { return j.Id == id })
}

// same tells whether a job that is not at a place has that name.
func (m model) same(name string, but int) bool {
	for i, j := range m.jobs {
		if i != but && j.Name == name {
			return true
		}
	}
	return false
}

// set is the model with a job at a place.
func (m model) set(i int, j api.Job) model {
	m.jobs = slices.Clone(m.jobs)
	m.jobs[i] = j
	return m
}

// rowError is what is wrong with the jobs' row, word for word as layer 13 tells it.
func rowError(l []api.Job) api.Errno {
	var all []uint64
	for _, j := range l {
		all = append(all, j.Id)
	}
	twice := func(l []uint64) bool {
		for i, id := range l {
			if slices.Contains(l[:i], id) {
				return true
			}
		}
		return false
	}
	if twice(all) || slices.ContainsFunc(l, func(j api.Job) bool { return twice(j.Deps) }) {
		return api.ErrTwice
	}
	for _, j := range l {
		for _, d := range j.Deps {
			if !slices.Contains(all, d) {
				return api.ErrNone
			}
		}
	}
	if circled(l, all) {
		return api.ErrCircle
	}
	return api.OK
}

// circled tells whether one comes back to somebody, in as many steps as there are jobs.
func circled(l []api.Job, all []uint64) bool {
	reach := make([][]bool, len(l))
	for i, j := range l {
		reach[i] = make([]bool, len(l))
		for _, d := range j.Deps {
			reach[i][slices.Index(all, d)] = true
		}
	}
	for by := range l {
		for from := range l {
			for to := range l {
				if reach[from][by] && reach[by][to] {
					reach[from][to] = true
				}
			}
		}
	}
	for i := range l {
		if reach[i][i] {
			return true
		}
	}
	return false
}

func (m model) add(j api.Job) (model, uint64, api.Errno) {
	switch {
	case job.May(j) != api.OK:
		return m, 0, job.May(j)
	case m.same(j.Name, -1):
		return m, 0, api.ErrSame
	case len(m.jobs) == most, m.last == big:
		return m, 0, api.ErrFull
	}
	j.Id, j.Version = m.last+1, 1
	j.Deps = slices.Clone(j.Deps)
	n := model{append(slices.Clone(m.jobs), j), j.Id}
	if e := rowError(n.jobs); e != api.OK {
		return m, 0, e
	}
	return n, j.Id, api.OK
}

func (m model) change(id uint64, j api.Job) (model, api.Errno) {
	i := m.place(id)
	switch {
	case i < 0:
		return m, api.ErrNone
	case job.May(j) != api.OK:
		return m, job.May(j)
	case m.same(j.Name, i):
		return m, api.ErrSame
	}
	was := m.jobs[i]
	j.Id, j.Paused, j.Seen = was.Id, was.Paused, was.Seen
	j.Version = was.Version + 1
	j.Deps = slices.Clone(j.Deps)
	n := m.set(i, j)
	if e := rowError(n.jobs); e != api.OK {
		return m, e
	}
	return n, api.OK
}

func (m model) remove(id uint64) (model, api.Errno) {
	i := m.place(id)
	if i < 0 {
		return m, api.ErrNone
	}
	for _, j := range m.jobs {
		if slices.Contains(j.Deps, id) {
			return m, api.ErrUsed
		}
	}
	return model{slices.Concat(m.jobs[:i], m.jobs[i+1:]), m.last}, api.OK
}

func (m model) pause(id uint64, paused bool, seen int64) (model, api.Errno) {
	i := m.place(id)
	if i < 0 {
		return m, api.ErrNone
	}
	if seen < -1 || seen > maxTime-1 {
		return m, api.ErrArg
	}
	j := m.jobs[i]
	if ends := j.Paused && !paused; ends && seen > j.Seen {
		j.Seen = seen
	}
	j.Paused = paused
	return m.set(i, j), api.OK
}

func (m model) see(id uint64, seen int64) (model, api.Errno) {
	i := m.place(id)
	if i < 0 {
		return m, api.ErrNone
	}
	if seen < -1 || seen > maxTime-1 {
		return m, api.ErrArg
	}
	j := m.jobs[i]
	if seen > j.Seen {
		j.Seen = seen
	}
	return m.set(i, j), api.OK
}

// of is the model of jobs, or why there is none.
func of(l []api.Job, last uint64) (m model, e api.Errno) {
	m.last = last
	for i, j := range l {
		switch {
		case i == 0 && j.Id < 1, i > 0 && j.Id <= l[i-1].Id, j.Id > last:
			return model{}, api.ErrArg
		case job.May(j) != api.OK:
			return model{}, job.May(j)
		case m.same(j.Name, -1):
			return model{}, api.ErrSame
		case i >= most:
			return model{}, api.ErrFull
		}
		j.Deps = slices.Clone(j.Deps)
		m.jobs = append(m.jobs, j)
	}
	if e := rowError(m.jobs); e != api.OK {
		return model{}, e
	}
	return m, api.OK
}

// equal tells whether two jobs are the same: none and an empty list are one.
func equal(a, b api.Job) bool {
	if len(a.Deps) == 0 && len(b.Deps) == 0 {
		a.Deps, b.Deps = nil, nil
	}
	return reflect.DeepEqual(a, b)
}

// none tells whether a job beside a false is the zero value.
func none(j api.Job) bool { return equal(j, api.Job{}) }

// held is a table, and how it must stand.
type held struct {
	*table.Table
	m model
}

// wrong is how a table does not stand as it must; nothing, if it does.
func wrong(t *table.Table, m model) string {
	if got := t.Last(); got != m.last {
		return fmt.Sprintf("Last() = %d; want %d", got, m.last)
	}
	l := t.List()
	if !slices.EqualFunc(l, m.jobs, equal) {
		return fmt.Sprintf("List() = %+v; want %+v", l, m.jobs)
	}
	row := t.Nodes()
	if len(row) != len(m.jobs) {
		return fmt.Sprintf("Nodes() = %v; want those of %+v", row, m.jobs)
	}
	for i, j := range m.jobs {
		if row[i].Id != j.Id || !slices.Equal(row[i].Deps, j.Deps) {
			return fmt.Sprintf("Nodes() = %v; want those of %+v", row, m.jobs)
		}
	}
	return ""
}

// unfound is a number or a name by which not the right job is found; nothing, if there is none.
func unfound(t *table.Table, m model, ids []uint64, names []string) string {
	for _, id := range ids {
		j, ok := t.Find(id)
		if i := m.place(id); ok != (i >= 0) || ok && !equal(j, m.jobs[i]) || !ok && !none(j) {
			return fmt.Sprintf("Find(%d) = %+v, %v; want that of %+v", id, j, ok, m.jobs)
		}
	}
	for _, name := range names {
		j, ok := t.Named(name)
		i := slices.IndexFunc(m.jobs, func(j api.Job) bool { return j.Name == name })
		if ok != (i >= 0) || ok && !equal(j, m.jobs[i]) || !ok && !none(j) {
			return fmt.Sprintf("Named(%q) = %+v, %v; want that of %+v", name, j, ok, m.jobs)
		}
	}
	return ""
}

// stands fails unless a table stands as it must, whatever it is asked.
func (h *held) stands(t testing.TB, what string) {
	t.Helper()
	ids := []uint64{0, 1, 2, 3, h.m.last - 1, h.m.last, h.m.last + 1, 1 << 63, big}
	names := []string{"", "a", "b", "A", "a ", "nobody", strings.Repeat("n", 40)}
	for _, j := range h.m.jobs {
		ids = append(ids, j.Id-1, j.Id, j.Id+1)
		names = append(names, j.Name, j.Name[1:], j.Name+"a")
	}
	for _, s := range []string{wrong(h.Table, h.m), unfound(h.Table, h.m, ids, names), wrong(h.Table, h.m)} {
		if s != "" {
			t.Fatalf("%s: %s", what, s)
		}
	}
	if e := rowError(h.m.jobs); e != api.OK || len(h.m.jobs) > most {
		t.Fatalf("%s: a row that may not be: %d: %+v", what, e, h.m.jobs)
	}
	again, e := table.Of(h.List(), h.Last())
	if e != api.OK {
		t.Fatalf("%s: Of of List and Last: %d; want OK: %+v", what, e, h.m.jobs)
	}
	if s := wrong(again, h.m); s != "" {
		t.Fatalf("%s: Of of List and Last: %s", what, s)
	}
	if s := wrong(h.Copy(), h.m); s != "" {
		t.Fatalf("%s: Copy: %s", what, s)
	}
}

// make1 is a table of jobs, by Of.
func make1(t testing.TB, last uint64, l ...api.Job) *held {
	t.Helper()
	m, e := of(l, last)
	if e != api.OK {
		t.Fatalf("no table of %+v, %d: %d", l, last, e)
	}
	got, e := table.Of(l, last)
	if e != api.OK {
		t.Fatalf("Of(%+v, %d): %d; want OK", l, last, e)
	}
	return &held{got, m}
}

// crowd is a table of so many jobs, named j1 and so on, by Add.
func crowd(t testing.TB, n int) *held {
	t.Helper()
	h := &held{table.New(), model{}}
	for i := range n {
		h.add(t, plain(fmt.Sprint("j", i+1)))
	}
	return h
}

// call is a call that may change a table.
type call struct {
	kind   string
	id     uint64
	j      api.Job
	paused bool
	seen   int64
}

// run runs a call of a table, and of the model, and tells how their answers differ; nothing, if they do not.
func (h *held) run(c call) string {
	var got, want api.Errno
	var n, wn uint64
	var m model
	switch c.kind {
	case "Add":
		n, got = h.Add(c.j)
		m, wn, want = h.m.add(c.j)
	case "Change":
		got = h.Change(c.id, c.j)
		m, want = h.m.change(c.id, c.j)
	case "Remove":
		got = h.Remove(c.id)
		m, want = h.m.remove(c.id)
	case "Pause":
		got = h.Pause(c.id, c.paused, c.seen)
		m, want = h.m.pause(c.id, c.paused, c.seen)
	case "See":
		got = h.See(c.id, c.seen)
		m, want = h.m.see(c.id, c.seen)
	}
	was := h.m
	h.m = m
	if n != wn || got != want {
		return fmt.Sprintf("%+v of %+v: %d, %d; want %d, %d", c, was, n, got, wn, want)
	}
	return ""
}

// do runs a call, and fails unless it answers, and the table stands then, as the chapter's words have it.
func (h *held) do(t testing.TB, c call) {
	t.Helper()
	// The Deps that are handed in stand amid others of the caller's, and are the caller's again behind the call.
	const mark = 1<<40 + 7
	room := slices.Concat([]uint64{mark, mark}, c.j.Deps, []uint64{mark, mark, mark})
	n := len(c.j.Deps)
	c.j.Deps = room[2 : 2+n]
	if s := h.run(c); s != "" {
		t.Fatal(s)
	}
	if !slices.Equal(room, slices.Concat([]uint64{mark, mark}, c.j.Deps, []uint64{mark, mark, mark})) {
		t.Fatalf("%s changed the Deps that it was given: %d", c.kind, room)
	}
	for i := range room {
		room[i] = mark + 1
	}
	h.stands(t, "behind "+c.kind)
}

func (h *held) add(t testing.TB, j api.Job) {
	t.Helper()
	h.do(t, call{kind: "Add", j: j})
}

func (h *held) change(t testing.TB, id uint64, j api.Job) {
	t.Helper()
	h.do(t, call{kind: "Change", id: id, j: j})
}

func (h *held) remove(t testing.TB, id uint64) {
	t.Helper()
	h.do(t, call{kind: "Remove", id: id})
}

func (h *held) pause(t testing.TB, id uint64, paused bool, seen int64) {
	t.Helper()
	h.do(t, call{kind: "Pause", id: id, paused: paused, seen: seen})
}

func (h *held) see(t testing.TB, id uint64, seen int64) {
	t.Helper()
	h.do(t, call{kind: "See", id: id, seen: seen})
}

// is fails unless a call tells want.
func is(t testing.TB, what string, e, want api.Errno) {
	t.Helper()
	if e != want {
		t.Fatalf("%s: %d; want %d", what, e, want)
	}
}

// adds fails unless Add tells that number and error.
func adds(t testing.TB, tab *table.Table, j api.Job, want uint64, we api.Errno) {
	t.Helper()
	if n, e := tab.Add(j); n != want || e != we {
		t.Fatalf("Add(%+v): %d, %d; want %d, %d", j, n, e, want, we)
	}
}

func TestExamples(t *testing.T) {
	tab := table.New()
	adds(t, tab, plain("a"), 1, api.OK)
	adds(t, tab, plain("b", 1), 2, api.OK)
	adds(t, tab, plain("a"), 0, api.ErrSame)
	is(t, "Remove(1)", tab.Remove(1), api.ErrUsed)
	is(t, "Change(1: waits for 2)", tab.Change(1, plain("a", 2)), api.ErrCircle)
	is(t, "Remove(2)", tab.Remove(2), api.OK)
	is(t, "Remove(1)", tab.Remove(1), api.OK)
	adds(t, tab, plain("c"), 3, api.OK)
}

// What is no table tells so ahead of all else, and is none afterwards.
func TestNoTable(t *testing.T) {
	for what, tab := range map[string]*table.Table{"nil": nil, "not made": {}, "new": new(table.Table)} {
		for range 2 {
			for _, j := range []api.Job{plain("a"), full("a", 1), {}, plain(""), plain("a", 1), plain("b", 9, 9)} {
				if n, e := tab.Add(j); n != 0 || e != api.ErrNil {
					t.Errorf("%s: Add: %d, %d", what, n, e)
				}
				for _, id := range []uint64{0, 1, 2, big} {
					is(t, what+": Change", tab.Change(id, j), api.ErrNil)
				}
			}
			for _, id := range []uint64{0, 1, 2, big} {
				is(t, what+": Remove", tab.Remove(id), api.ErrNil)
				for _, seen := range []int64{-2, -1, 0, maxTime - 1, maxTime, math.MinInt64, math.MaxInt64} {
					is(t, what+": Pause", tab.Pause(id, true, seen), api.ErrNil)
					is(t, what+": Pause", tab.Pause(id, false, seen), api.ErrNil)
					is(t, what+": See", tab.See(id, seen), api.ErrNil)
				}
				if j, ok := tab.Find(id); ok || !none(j) {
					t.Errorf("%s: Find(%d): %+v, %v", what, id, j, ok)
				}
			}
			for _, name := range []string{"", "a", "b"} {
				if j, ok := tab.Named(name); ok || !none(j) {
					t.Errorf("%s: Named(%q): %+v, %v", what, name, j, ok)
				}
			}
			if l, row, n, c := tab.List(), tab.Nodes(), tab.Last(), tab.Copy(); len(l) > 0 || len(row) > 0 || n != 0 || c != nil {
				t.Errorf("%s: %v, %v, %d, %v", what, l, row, n, c)
			}
		}
	}
}

// A table of no job has none of any number, whatever else is wrong.
func TestNew(t *testing.T) {
	h := &held{table.New(), model{}}
	h.stands(t, "New")
	if h.Table == table.New() {
		t.Error("New tells one table twice")
	}
	for _, id := range []uint64{0, 1, 2, 1 << 63, big} {
		is(t, "Change", h.Change(id, plain("a")), api.ErrNone)
		is(t, "Remove", h.Remove(id), api.ErrNone)
		is(t, "Pause", h.Pause(id, true, 0), api.ErrNone)
		is(t, "See", h.See(id, 0), api.ErrNone)
		for _, f := range faults() {
			is(t, "Change; "+f.what, h.Change(id, with(plain("a"), f.do)), api.ErrNone)
		}
		for _, seen := range []int64{-2, maxTime, math.MinInt64, math.MaxInt64} {
			is(t, "Pause", h.Pause(id, false, seen), api.ErrNone)
			is(t, "See", h.See(id, seen), api.ErrNone)
		}
	}
	h.stands(t, "New, behind refusals")
}

// All but Id and Version of a job that is added is as it was given.
func TestAdd(t *testing.T) {
	h := &held{table.New(), model{}}
	for i, change := range []func(*api.Job){
		func(j *api.Job) {},
		func(j *api.Job) { j.Id, j.Version, j.Paused = 0, 0, true },
		func(j *api.Job) { j.Id, j.Version, j.Paused = 1, 1, false },
		func(j *api.Job) { j.Id, j.Version, j.Paused = 2, 2, true },
		func(j *api.Job) { j.Id, j.Version = big, big },
		func(j *api.Job) { j.Id, j.Version = 99, big-1 },
		func(j *api.Job) { j.Expr, j.Policy, j.Seen = "* * * * *", 2, -1 },
		func(j *api.Job) { j.Grace, j.Limit, j.Retries, j.Seen = 604800, 8, 5, maxTime-1 },
		func(j *api.Job) { j.Timeout, j.Deps, j.Seen = 86400, []uint64{8, 7, 6, 5, 4, 3, 2, 1}, 0 },
	} {
		name := fmt.Sprint("n", i)
		for _, j := range []api.Job{with(plain(name), change), with(full(name+"f", 1), change)} {
			if len(h.m.jobs) == 0 {
				j.Deps = nil
			}
			want := j
			want.Id, want.Version = h.Last()+1, 1
			h.add(t, j)
			if got, ok := h.Find(want.Id); !ok || !equal(got, want) {
				t.Fatalf("Add(%+v): %+v, %v", j, got, ok)
			}
			if h.Last() != want.Id {
				t.Fatalf("Last() = %d; want %d", h.Last(), want.Id)
			}
		}
	}
}

// Of each fault of a job alone Add, Change and Of tell it, whatever the table.
func TestJobFaults(t *testing.T) {
	for _, f := range faults() {
		for _, h := range []*held{crowd(t, 0), crowd(t, 1), crowd(t, 9), crowd(t, most)} {
			is(t, "Add; "+f.what, errorOf(h.Add(with(full("new"), f.do))), f.e)
			h.add(t, with(full("new"), f.do))
			h.add(t, with(plain("j1"), f.do))
			h.add(t, with(plain("new", 99, 99), f.do))
			for i := range h.m.jobs {
				id := uint64(i + 1)
				is(t, "Change; "+f.what, h.Change(id, with(full("new"), f.do)), f.e)
				is(t, "Change; "+f.what, h.Change(id, with(plain("j2", id, 99, 99), f.do)), f.e)
			}
			if l := h.List(); len(l) > 0 {
				h.change(t, 1, with(full("new"), f.do))
				f.do(&l[len(l)-1])
				is(t, "Of; "+f.what, ofError(t, l, h.Last()), f.e)
				is(t, "Of; "+f.what, ofError(t, l[len(l)-1:], h.Last()), f.e)
			}
		}
	}
}

func errorOf(_ uint64, e api.Errno) api.Errno { return e }

// ofError is Of's error; it fails if there is a table beside one.
func ofError(t testing.TB, l []api.Job, last uint64) api.Errno {
	t.Helper()
	tab, e := table.Of(l, last)
	if (tab == nil) != (e != api.OK) {
		t.Fatalf("Of(%+v, %d): %v, %d", l, last, tab, e)
	}
	return e
}

func TestNames(t *testing.T) {
	h := crowd(t, 3)
	for _, name := range []string{"j1", "j2", "j3"} {
		is(t, "Add; "+name, errorOf(h.Add(plain(name))), api.ErrSame)
		h.add(t, full(name))
	}
	for _, name := range []string{"J1", "j", "j1 ", " j1", "j11", "j1\x00", strings.Repeat("j1", 16), "\xff", " "} {
		h.add(t, plain(name))
		is(t, "Add; "+name, errorOf(h.Add(plain(name))), api.ErrSame)
	}
	// A name that was removed, or changed, is nobody's.
	h.remove(t, 2)
	h.add(t, plain("j2"))
	is(t, "Add of a name anew", errorOf(h.Add(plain("j2"))), api.ErrSame)
	h.change(t, 1, plain("other"))
	is(t, "Add of the changed name", errorOf(h.Add(plain("other"))), api.ErrSame)
	h.add(t, plain("j1"))
	is(t, "Change to a name that another has", h.Change(1, plain("j1")), api.ErrSame)
	is(t, "Change to its own name", h.Change(1, plain("other")), api.OK)
	if j, ok := h.Named("j2"); !ok || j.Id != h.Last()-1 {
		t.Errorf("Named(j2) = %+v, %v", j, ok)
	}
}

func TestFull(t *testing.T) {
	h := crowd(t, most-1)
	h.add(t, plain("last"))
	if h.Last() != most || len(h.List()) != 32 {
		t.Fatalf("%d jobs, Last() = %d; want %d", len(h.List()), h.Last(), most)
	}
	is(t, "Add beyond MaxJobs", errorOf(h.Add(plain("more"))), api.ErrFull)
	h.add(t, plain("more", 1))
	// What is told first: its name; and ahead of what is wrong with the row: that there is no room.
	is(t, "Add of a name that is there", errorOf(h.Add(plain("last"))), api.ErrSame)
	is(t, "Add of one that waits for itself", errorOf(h.Add(plain("more", 33))), api.ErrFull)
	is(t, "Add of one that waits twice", errorOf(h.Add(plain("more", 1, 1))), api.ErrFull)
	is(t, "Add of one that waits for nobody", errorOf(h.Add(plain("more", 99))), api.ErrFull)
	// A table that is full may be changed yet.
	for id := uint64(1); id < most; id++ {
		h.change(t, id, plain(fmt.Sprint("j", id), id+1))
		is(t, "Remove", h.Remove(id+1), api.ErrUsed)
	}
	is(t, "Change to a circle of all", h.Change(most, plain("last", 1)), api.ErrCircle)
	is(t, "Remove", h.Remove(1), api.OK)
	h.m, _ = h.m.remove(1)
	h.add(t, plain("more", 32, 31))
	is(t, "Add beyond MaxJobs", errorOf(h.Add(plain("even more"))), api.ErrFull)
	if h.Last() != 33 {
		t.Errorf("Last() = %d; want 33", h.Last())
	}
}

func TestAddRow(t *testing.T) {
	h := crowd(t, 10)
	h.remove(t, 4)
	h.remove(t, 10)
	for _, c := range []struct {
		deps []uint64
		e    api.Errno
	}{
		{nil, api.OK}, {[]uint64{}, api.OK}, {[]uint64{1}, api.OK}, {[]uint64{9}, api.OK}, {[]uint64{9, 1}, api.OK},
		{[]uint64{1, 2, 3, 5, 6, 7, 8, 9}, api.OK}, {[]uint64{9, 8, 7, 6, 5, 3, 2, 1}, api.OK},
		{[]uint64{11}, api.ErrCircle}, {[]uint64{1, 11}, api.ErrCircle}, {[]uint64{11, 9}, api.ErrCircle},
		{[]uint64{0}, api.ErrNone}, {[]uint64{4}, api.ErrNone}, {[]uint64{10}, api.ErrNone}, {[]uint64{12}, api.ErrNone},
		{[]uint64{big}, api.ErrNone}, {[]uint64{1, 2, 3, 4}, api.ErrNone}, {[]uint64{11, 12}, api.ErrNone}, {[]uint64{12, 11}, api.ErrNone},
		{[]uint64{1, 1}, api.ErrTwice}, {[]uint64{1, 2, 1}, api.ErrTwice}, {[]uint64{11, 11}, api.ErrTwice}, {[]uint64{12, 12}, api.ErrTwice},
		{[]uint64{11, 0, 1, 1}, api.ErrTwice}, {[]uint64{1, 2, 3, 5, 6, 7, 8, 8}, api.ErrTwice},
		{[]uint64{1, 2, 3, 5, 6, 7, 8, 9, 4}, api.ErrLong}, {slices.Repeat([]uint64{11}, 9), api.ErrLong}, {slices.Repeat([]uint64{1}, 65), api.ErrLong},
	} {
		g := &held{h.Copy(), h.m}
		want := uint64(11)
		if c.e != api.OK {
			want = 0
		}
		adds(t, h.Copy(), plain("new", c.deps...), want, c.e)
		// Whatever number stands in it, it is the next number that is its own.
		adds(t, h.Copy(), numbered(4, plain("new", c.deps...)), want, c.e)
		adds(t, h.Copy(), numbered(12, full("new", c.deps...)), want, c.e)
		g.add(t, plain("new", c.deps...))
		// Who was refused left the number free.
		g.add(t, full("newer", 9))
		if n := want/11 + 11; g.Last() != n {
			t.Errorf("Deps %d: Last() = %d; want %d", c.deps, g.Last(), n)
		}
	}
}

// Of all faults that there may be at once Add tells the first one.
func TestAddFaults(t *testing.T) {
	rows := [][]uint64{nil, {1}, {1, 1}, {0}, {33}, {3}, {4}, {99}, {99, 99}, {33, 4}}
	for _, n := range []int{0, 1, 3, most - 1, most} {
		h := crowd(t, n)
		for _, name := range []string{"new", "j1", "j3", "j32"} {
			for _, deps := range rows {
				j := plain(name, deps...)
				g := &held{h.Copy(), h.m}
				g.add(t, j)
				for _, f := range one() {
					g := &held{h.Copy(), h.m}
					g.add(t, with(j, f.do))
					for _, o := range one() {
						if s := g.run(call{kind: "Add", j: with(j, f.do, o.do)}); s != "" {
							t.Fatal(s)
						}
					}
				}
			}
		}
	}
}

// A number is given once, whoever is gone, and whoever was refused.
func TestNumbers(t *testing.T) {
	h := &held{table.New(), model{}}
	for i := uint64(1); i <= 100; i++ {
		is(t, "an Add that is refused", errorOf(h.Add(plain("x", i))), api.ErrCircle)
		is(t, "an Add that is refused", errorOf(h.Add(plain(""))), api.ErrName)
		is(t, "an Add that is refused", errorOf(h.Add(plain("x", 0))), api.ErrNone)
		adds(t, h.Copy(), plain("x"), i, api.OK)
		h.add(t, plain("x"))
		if h.Last() != i {
			t.Fatalf("Last() = %d; want %d", h.Last(), i)
		}
		is(t, "an Add that is refused", errorOf(h.Add(plain("x"))), api.ErrSame)
		h.remove(t, i)
		if h.Last() != i {
			t.Fatalf("Last() = %d behind Remove; want %d", h.Last(), i)
		}
	}
}

// Behind the greatest number there is none to be given.
func TestLastNumber(t *testing.T) {
	h := make1(t, big-2, numbered(5, plain("a")), numbered(big-2, plain("b", 5)))
	h.add(t, plain("c", 5, big-2))
	h.add(t, plain("d", big-1))
	if j, ok := h.Named("d"); !ok || j.Id != big || h.Last() != big {
		t.Fatalf("Named(d) = %+v, %v; Last() = %d", j, ok, h.Last())
	}
	for _, deps := range [][]uint64{nil, {5}, {0}, {1}, {big}, {9, 9}} {
		is(t, "Add behind 2^64 - 1", errorOf(h.Add(plain("e", deps...))), api.ErrFull)
		h.add(t, full("e", deps...))
	}
	is(t, "Add behind 2^64 - 1 of a name that is there", errorOf(h.Add(plain("d"))), api.ErrSame)
	is(t, "Add behind 2^64 - 1 of a job that may not be", errorOf(h.Add(plain(""))), api.ErrName)
	h.remove(t, big)
	is(t, "Add behind 2^64 - 1", errorOf(h.Add(plain("d"))), api.ErrFull)
	h.change(t, 5, plain("e"))
	h.change(t, big-1, plain("f"))
	h.change(t, 5, plain("e", big-1))
	e := make1(t, big)
	is(t, "Add behind 2^64 - 1 without jobs", errorOf(e.Add(plain("d"))), api.ErrFull)
	e.add(t, plain("d"))
	e = make1(t, big-1)
	e.add(t, plain("d", big))
	e.add(t, plain("d"))
	e.add(t, plain("e"))
}

func TestChange(t *testing.T) {
	was := numbered(2, full("b", 1))
	for _, paused := range []bool{false, true} {
		for _, version := range []uint64{0, 1, 41, big - 1, big} {
			for _, seen := range []int64{-1, 0, 500, maxTime - 1} {
				was.Paused, was.Version, was.Seen = paused, version, seen
				h := make1(t, 9, numbered(1, plain("a")), was, numbered(5, plain("c")))
				for k, j := range []api.Job{
					plain("b"), plain("new"), full("b", 1), full("newer", 5, 1), plain("b", 5),
					with(full("n"), func(j *api.Job) { j.Id, j.Paused, j.Seen, j.Version = 1, !paused, 7, 3 }),
					with(plain("n"), func(j *api.Job) { j.Id, j.Paused, j.Seen, j.Version = 9, paused, maxTime-1, big }),
					with(plain("n"), func(j *api.Job) { j.Id, j.Paused, j.Seen, j.Version = big, true, -1, 0 }),
				} {
					h.change(t, 2, j)
					want := j
					want.Id, want.Paused, want.Seen, want.Version = 2, paused, seen, version+1+uint64(k)
					if got, _ := h.Find(2); !equal(got, want) {
						t.Fatalf("Change(2, %+v): %+v; want %+v", j, got, want)
					}
				}
			}
		}
	}
}

// Of a number that is nobody's ErrNone is told, whatever else is wrong.
func TestNobody(t *testing.T) {
	h := crowd(t, 5)
	h.remove(t, 3)
	h.remove(t, 5)
	h.change(t, 4, plain("j4", 1, 2))
	for _, id := range []uint64{0, 3, 5, 6, 7, 1 << 63, big} {
		for _, j := range []api.Job{plain("j1"), plain("j3"), plain("new"), plain("new", id), plain("new", 1, 1), plain("", 9), {}} {
			is(t, "Change", h.Change(id, j), api.ErrNone)
			h.change(t, id, j)
		}
		for _, seen := range []int64{-2, -1, 0, maxTime - 1, maxTime, math.MinInt64, math.MaxInt64} {
			is(t, "Pause", h.Pause(id, true, seen), api.ErrNone)
			h.pause(t, id, false, seen)
			is(t, "See", h.See(id, seen), api.ErrNone)
			h.see(t, id, seen)
		}
		is(t, "Remove", h.Remove(id), api.ErrNone)
		h.remove(t, id)
	}
}

func TestChangeRow(t *testing.T) {
	h := crowd(t, 6)
	h.remove(t, 6)
	for _, c := range []struct {
		id   uint64
		deps []uint64
		e    api.Errno
	}{
		{1, []uint64{1}, api.ErrCircle}, {3, []uint64{1, 3}, api.ErrCircle},
		{1, []uint64{6}, api.ErrNone}, {1, []uint64{7}, api.ErrNone}, {1, []uint64{0}, api.ErrNone}, {1, []uint64{1, 6}, api.ErrNone},
		{1, []uint64{2, 2}, api.ErrTwice}, {1, []uint64{1, 1}, api.ErrTwice}, {1, []uint64{6, 6}, api.ErrTwice},
		{1, []uint64{2}, api.OK}, // somebody may wait for who came later
		{2, []uint64{1}, api.ErrCircle}, {2, []uint64{1, 3}, api.ErrCircle}, {2, []uint64{3}, api.OK},
		{3, []uint64{1}, api.ErrCircle}, {3, []uint64{2}, api.ErrCircle}, {3, []uint64{4, 5}, api.OK},
		{5, []uint64{4}, api.OK}, {4, []uint64{5}, api.ErrCircle}, {4, []uint64{1}, api.ErrCircle}, {4, []uint64{3, 5, 2}, api.ErrCircle},
		{2, nil, api.OK}, {3, []uint64{1, 2}, api.OK}, {2, []uint64{3}, api.ErrCircle}, {1, []uint64{3}, api.ErrCircle}, {1, []uint64{}, api.OK},
		{1, []uint64{5, 4, 2}, api.OK}, {5, []uint64{3}, api.ErrCircle}, {1, []uint64{1, 2, 3, 4, 5, 6, 7, 8, 9}, api.ErrLong},
	} {
		// The number that stands in a job does not count.
		for _, in := range []uint64{0, 1, 2, 6, big} {
			g := h.Copy()
			is(t, fmt.Sprint("Change ", c.id, " to ", c.deps), g.Change(c.id, numbered(in, plain(fmt.Sprint("j", c.id), c.deps...))), c.e)
		}
		h.change(t, c.id, full(fmt.Sprint("j", c.id), c.deps...))
	}
}

// Of all faults that there may be at once Change tells the first one.
func TestChangeFaults(t *testing.T) {
	for _, n := range []int{1, 3, most} {
		h := crowd(t, n)
		if n > 1 {
			h.change(t, 3, plain("j3", 1))
		}
		for _, id := range []uint64{0, 1, 2, 3, 32, 33} {
			for _, name := range []string{"new", "j1", "j2", "j3", "j32"} {
				for _, deps := range [][]uint64{nil, {1}, {2}, {3}, {1, 1}, {0}, {33}, {99, 99}, {1, 2, 3}, {1, 99}} {
					j := plain(name, deps...)
					g := &held{h.Copy(), h.m}
					g.change(t, id, j)
					for _, f := range one() {
						g := &held{h.Copy(), h.m}
						for _, o := range one() {
							if s := g.run(call{kind: "Change", id: id, j: with(j, f.do, o.do)}); s != "" {
								t.Fatal(s)
							}
						}
						if s := wrong(g.Table, h.m); s != "" {
							t.Fatal(s)
						}
					}
				}
			}
		}
	}
}

func TestRemove(t *testing.T) {
	h := crowd(t, 6)
	h.change(t, 3, plain("j3", 1, 2))
	h.change(t, 4, full("j4", 2))
	h.change(t, 1, plain("j1", 5))
	for _, c := range []struct {
		id uint64
		e  api.Errno
	}{
		{1, api.ErrUsed}, {2, api.ErrUsed}, {5, api.ErrUsed}, {6, api.OK}, {6, api.ErrNone}, {3, api.OK}, {1, api.OK},
		{1, api.ErrNone}, {5, api.OK}, {2, api.ErrUsed}, {4, api.OK}, {2, api.OK}, {2, api.ErrNone}, {3, api.ErrNone},
	} {
		is(t, fmt.Sprint("Remove ", c.id), h.Copy().Remove(c.id), c.e)
		h.remove(t, c.id)
	}
	if l := h.List(); len(l) != 0 || h.Last() != 6 {
		t.Errorf("%v, %d", l, h.Last())
	}
	// Behind a Change, by which nobody waits for it any more; and who is paused waits, too.
	h = make1(t, 3, numbered(1, plain("a")), numbered(2, full("b", 1)), numbered(3, plain("c", 1)))
	is(t, "Remove(1)", h.Remove(1), api.ErrUsed)
	h.change(t, 3, plain("c"))
	is(t, "Remove(1)", h.Remove(1), api.ErrUsed)
	h.change(t, 2, plain("b", 3))
	is(t, "Remove(3)", h.Remove(3), api.ErrUsed)
	h.remove(t, 1)
	is(t, "Change to wait for who is gone", h.Change(2, plain("b", 1)), api.ErrNone)
	h.remove(t, 2)
	h.remove(t, 3)
}

// seens are moments, those that may not be among them.
func seens() []int64 {
	return []int64{
		-2, -1, 0, 1, 59, 499, 500, 501, maxTime - 2, maxTime - 1, maxTime, maxTime + 1,
		math.MinInt64, math.MaxInt64, 1 << 32, -1 << 32, -maxTime, -3,
	}
}

func TestPause(t *testing.T) {
	for _, was := range []bool{false, true} {
		for _, to := range []bool{false, true} {
			for _, had := range []int64{-1, 0, 500, maxTime - 2, maxTime - 1} {
				for _, seen := range seens() {
					j := with(full("b", 1), func(j *api.Job) { j.Id, j.Paused, j.Seen, j.Version = 2, was, had, 4 })
					h := make1(t, 7, numbered(1, plain("a")), j, numbered(6, full("c", 2)))
					e := h.Copy().Pause(2, to, seen)
					h.pause(t, 2, to, seen)
					want := j
					if seen >= -1 && seen < maxTime {
						is(t, "Pause", e, api.OK)
						want.Paused = to
						if was && !to {
							want.Seen = max(had, seen)
						}
					} else {
						is(t, "Pause", e, api.ErrArg)
					}
					if got, _ := h.Find(2); !equal(got, want) {
						t.Fatalf("Pause(2, %v, %d) of %+v: %+v", to, seen, j, got)
					}
				}
			}
		}
	}
}

func TestSee(t *testing.T) {
	for _, paused := range []bool{false, true} {
		for _, had := range []int64{-1, 0, 500, maxTime - 2, maxTime - 1} {
			for _, seen := range seens() {
				j := with(full("b", 1), func(j *api.Job) { j.Id, j.Paused, j.Seen, j.Version = 2, paused, had, 4 })
				h := make1(t, 7, numbered(1, plain("a")), j, numbered(6, full("c", 2)))
				e := h.Copy().See(2, seen)
				h.see(t, 2, seen)
				want := j
				if seen >= -1 && seen < maxTime {
					is(t, "See", e, api.OK)
					want.Seen = max(had, seen)
				} else {
					is(t, "See", e, api.ErrArg)
				}
				if got, _ := h.Find(2); !equal(got, want) {
					t.Fatalf("See(2, %d) of %+v: %+v", seen, j, got)
				}
			}
		}
	}
}

// Pauses of a job one behind the other: only where one ends, Seen goes on.
func TestPauses(t *testing.T) {
	h := crowd(t, 2)
	for _, c := range []struct {
		paused     bool
		seen, want int64
	}{
		{false, 50, -1}, {true, 60, -1}, {true, 70, -1}, {false, 80, 80}, {false, 90, 80}, {true, 100, 80}, {false, 70, 80},
		{true, 0, 80}, {false, 81, 81}, {true, maxTime - 1, 81}, {false, maxTime - 1, maxTime - 1}, {true, 5, maxTime - 1},
	} {
		h.pause(t, 2, c.paused, c.seen)
		if j, _ := h.Find(2); j.Paused != c.paused || j.Seen != c.want || j.Version != 1 {
			t.Fatalf("Pause(2, %v, %d): %+v; want a Seen of %d", c.paused, c.seen, j, c.want)
		}
		if j, _ := h.Find(1); j.Paused || j.Seen != -1 {
			t.Fatalf("Pause of 2 changed 1: %+v", j)
		}
	}
}

func TestFind(t *testing.T) {
	h := make1(t, 90, numbered(3, plain("a")), numbered(7, full("b", 3)), numbered(80, full("B", 7, 3)))
	for _, want := range h.m.jobs {
		for _, j := range []struct {
			api.Job
			ok bool
		}{found(h.Find(want.Id)), found(h.Named(want.Name))} {
			if !j.ok || !equal(j.Job, want) {
				t.Errorf("found %+v, %v; want %+v", j.Job, j.ok, want)
			}
		}
	}
	for _, id := range []uint64{0, 1, 2, 4, 6, 8, 79, 81, 90, 91, 1<<32 + 3, 1<<63 + 7, big} {
		if j, ok := h.Find(id); ok || !none(j) {
			t.Errorf("Find(%d) = %+v, %v", id, j, ok)
		}
	}
	for _, name := range []string{"", "A", "c", "ab", "a ", " a", "a\x00", "bB", "@daily", strings.Repeat("a", 1<<16)} {
		if j, ok := h.Named(name); ok || !none(j) {
			t.Errorf("Named(%.10q) = %+v, %v", name, j, ok)
		}
	}
}

func found(j api.Job, ok bool) struct {
	api.Job
	ok bool
} {
	return struct {
		api.Job
		ok bool
	}{j, ok}
}

// The order is that of the numbers, whoever came, changed or went, each time.
func TestOrder(t *testing.T) {
	h := crowd(t, most)
	for _, id := range []uint64{32, 1, 17, 5, 30, 2} {
		h.remove(t, id)
	}
	for _, id := range []uint64{31, 3, 16, 9} {
		h.change(t, id, full(fmt.Sprint("z", id), 29, 4, 18))
		h.pause(t, id, false, 9)
		h.see(t, id, 10)
	}
	h.add(t, plain("0", 31, 3))
	h.add(t, plain("zz", 33))
	want := []uint64{3, 4, 6, 7, 8, 9, 10, 11, 12, 13, 14, 15, 16, 18, 19, 20, 21, 22, 23, 24, 25, 26, 27, 28, 29, 31, 33, 34}
	for range 50 {
		var ids, nodes []uint64
		for _, j := range h.List() {
			ids = append(ids, j.Id)
		}
		for _, n := range h.Nodes() {
			nodes = append(nodes, n.Id)
		}
		if !slices.Equal(ids, want) || !slices.Equal(nodes, want) {
			t.Fatalf("List: %d; Nodes: %d; want %d", ids, nodes, want)
		}
	}
}

func TestLast(t *testing.T) {
	h := &held{table.New(), model{}}
	for _, c := range []struct {
		call
		last uint64
	}{
		{call{kind: "Remove", id: 1}, 0}, {call{kind: "Add", j: plain("")}, 0}, {call{kind: "Add", j: plain("a", 1)}, 0},
		{call{kind: "Add", j: numbered(40, plain("a"))}, 1}, {call{kind: "Add", j: plain("a")}, 1}, {call{kind: "Add", j: plain("b", 1)}, 2},
		{call{kind: "Remove", id: 1}, 2}, {call{kind: "Remove", id: 2}, 2}, {call{kind: "Remove", id: 2}, 2}, {call{kind: "Add", j: plain("c", 2)}, 2},
		{call{kind: "Add", j: plain("b")}, 3}, {call{kind: "Change", id: 3, j: numbered(50, plain("c"))}, 3}, {call{kind: "Remove", id: 1}, 3},
		{call{kind: "Pause", id: 3, paused: true}, 3}, {call{kind: "See", id: 3, seen: 99}, 3}, {call{kind: "Remove", id: 3}, 3},
	} {
		h.do(t, c.call)
		if h.Last() != c.last {
			t.Fatalf("Last() = %d behind %+v; want %d", h.Last(), c.call, c.last)
		}
	}
}

// checkOf fails unless Of tells of jobs what the chapter's words do.
func checkOf(t testing.TB, l []api.Job, last uint64) api.Errno {
	t.Helper()
	m, want := of(l, last)
	got, e := table.Of(l, last)
	if e != want || (got == nil) != (e != api.OK) {
		t.Fatalf("Of(%+v, %d): %v, %d; want %d", l, last, got, e, want)
	}
	if e == api.OK {
		if s := wrong(got, m); s != "" {
			t.Fatalf("Of(%+v, %d): %s", l, last, s)
		}
	}
	return e
}

// line are so many jobs, the numbers of which rise by some, each of which waits for the one ahead of it.
func line(n int, first, by uint64) (l []api.Job) {
	for i := range uint64(n) {
		j := numbered(first+i*by, full(fmt.Sprint("j", i)))
		if i > 0 {
			j.Deps = []uint64{j.Id - by}
		}
		l = append(l, j)
	}
	return l
}

func TestOf(t *testing.T) {
	for _, last := range []uint64{0, 1, 2, 1 << 63, big} {
		for _, l := range [][]api.Job{nil, {}} {
			is(t, "Of of no jobs", checkOf(t, l, last), api.OK)
			h := make1(t, last, l...)
			h.stands(t, "Of of no jobs")
			h.add(t, plain("a", last+1))
			h.add(t, plain("a"))
			h.add(t, plain("b", last+1))
			h.remove(t, last+1)
		}
	}
	for _, c := range []struct {
		what string
		l    []api.Job
		last uint64
		e    api.Errno
	}{
		{"one", line(1, 1, 1), 1, api.OK},
		{"one, far on", line(1, 7, 1), 1 << 40, api.OK},
		{"one of the Id 0", line(1, 0, 1), 5, api.ErrArg},
		{"one of the Id 0, of last 0", line(1, 0, 1), 0, api.ErrArg},
		{"one just last", line(1, 9, 1), 9, api.OK},
		{"one above last", line(1, 10, 1), 9, api.ErrArg},
		{"one, of last 0", line(1, 1, 1), 0, api.ErrArg},
		{"one, the greatest", line(1, big, 1), big, api.OK},
		{"one, the greatest, above last", line(1, big, 1), big - 1, api.ErrArg},
		{"MaxJobs", line(most, 1, 1), most, api.OK},
		{"MaxJobs, with gaps", line(most, 3, 1<<58), 1 << 63, api.OK},
		{"MaxJobs, the last above last", line(most, 1, 1), most - 1, api.ErrArg},
		{"MaxJobs and one", line(most+1, 1, 1), most + 1, api.ErrFull},
		{"MaxJobs and many", line(99, 1, 1), 99, api.ErrFull},
		{"MaxJobs, and one above last", line(most+1, 1, 1), most, api.ErrArg},
		{"the same Id", append(line(3, 1, 1), numbered(3, plain("x"))), 9, api.ErrArg},
		{"an Id that falls", append(line(3, 1, 1), numbered(2, plain("x"))), 9, api.ErrArg},
		{"an Id that falls to 0", append(line(3, 1, 1), numbered(0, plain("x"))), 9, api.ErrArg},
		{"an Id that falls and rises", append(line(3, 5, 1), numbered(1, plain("x")), numbered(8, plain("y"))), 9, api.ErrArg},
		{"one name", append(line(3, 1, 1), numbered(4, plain("j1"))), 9, api.ErrSame},
		{"one name, side by side", append(line(3, 1, 1), numbered(4, plain("j2"))), 9, api.ErrSame},
		{"a circle of one", []api.Job{numbered(1, plain("a", 1))}, 1, api.ErrCircle},
		{"a circle of two", []api.Job{numbered(1, plain("a", 2)), numbered(2, plain("b", 1))}, 2, api.ErrCircle},
		{"a circle of three", []api.Job{numbered(1, plain("a", 4)), numbered(2, plain("b", 1)), numbered(4, plain("c", 2))}, 4, api.ErrCircle},
		{"who waits for who came later", []api.Job{numbered(1, plain("a", 4, 2)), numbered(2, plain("b")), numbered(4, plain("c", 2))}, 4, api.OK},
		{"who waits for nobody", []api.Job{numbered(1, plain("a", 3)), numbered(2, plain("b"))}, 4, api.ErrNone},
		{"who waits for 0", []api.Job{numbered(1, plain("a", 0)), numbered(2, plain("b"))}, 4, api.ErrNone},
		{"who waits twice", []api.Job{numbered(1, plain("a", 2, 2)), numbered(2, plain("b"))}, 4, api.ErrTwice},
		{"all faults of a row", []api.Job{numbered(1, plain("a", 1)), numbered(2, plain("b", 9)), numbered(3, plain("c", 1, 1))}, 4, api.ErrTwice},
		{"two faults of a row", []api.Job{numbered(1, plain("a", 1)), numbered(2, plain("b", 9))}, 4, api.ErrNone},
	} {
		is(t, c.what, checkOf(t, c.l, c.last), c.e)
		if c.e == api.OK {
			h := make1(t, c.last, c.l...)
			h.stands(t, c.what)
			h.add(t, full("j0"))
			h.add(t, full("new", c.l[0].Id))
			h.remove(t, c.l[0].Id)
			h.change(t, c.l[0].Id, plain("j0"))
		}
	}
}

// Jobs of Of keep what Add and Change would not leave them.
func TestOfKeeps(t *testing.T) {
	for _, version := range []uint64{0, 1, 1 << 63, big} {
		for _, seen := range []int64{-1, 0, maxTime - 1} {
			for _, paused := range []bool{false, true} {
				j := with(full("a"), func(j *api.Job) { j.Version, j.Seen, j.Paused = version, seen, paused })
				h := make1(t, 99, j)
				h.stands(t, "Of")
				if got, _ := h.Find(77); !equal(got, j) {
					t.Fatalf("Find(77) = %+v; want %+v", got, j)
				}
			}
		}
	}
}

// Of two faults, wherever they stand, Of tells the first one, job by job; the row's own at last.
func TestOfFaults(t *testing.T) {
	kinds := slices.Concat(one(), []fault{
		{"an Id of 0", func(j *api.Job) { j.Id = 0 }, api.ErrArg},
		{"the Id of the first one", func(j *api.Job) { j.Id = 1 }, api.ErrArg},
		{"an Id above last", func(j *api.Job) { j.Id = 101 }, api.ErrArg},
		{"the name of the first one", func(j *api.Job) { j.Name = "j0" }, api.ErrSame},
		{"itself", func(j *api.Job) { j.Deps = []uint64{j.Id} }, api.ErrCircle},
		{"nobody", func(j *api.Job) { j.Deps = []uint64{100} }, api.ErrNone},
		{"one twice", func(j *api.Job) { j.Deps = []uint64{1, 1} }, api.ErrTwice},
	})
	for _, n := range []int{1, 2, 5, most, most + 1, most + 2} {
		for at := range n {
			if at > 2 && at < n-3 {
				continue
			}
			for _, f := range kinds {
				l := line(n, 1, 1)
				f.do(&l[at])
				checkOf(t, l, 100)
				for _, by := range []int{0, 1, 2, n - 1 - at, most - at} {
					if at+by < 0 || at+by >= n {
						continue
					}
					for _, o := range kinds {
						two := slices.Clone(l)
						o.do(&two[at+by])
						checkOf(t, two, 100)
					}
				}
			}
		}
	}
}

// All rows of up to three jobs of some few kinds.
func TestOfSmall(t *testing.T) {
	var kinds []api.Job
	for _, id := range []uint64{0, 1, 2, 3} {
		for _, name := range []string{"a", "b"} {
			for _, deps := range [][]uint64{nil, {1}, {2}, {3, 1}} {
				kinds = append(kinds, numbered(id, plain(name, deps...)))
			}
		}
	}
	kinds = append(kinds, numbered(2, plain("c", 2, 2)), numbered(2, plain("")), numbered(3, full("c", 9)))
	for last := range uint64(4) {
		for _, a := range kinds {
			checkOf(t, []api.Job{a}, last)
			for _, b := range kinds {
				checkOf(t, []api.Job{a, b}, last)
				if last < 2 || a.Id == 0 {
					continue
				}
				for _, c := range kinds {
					checkOf(t, []api.Job{a, b, c}, last)
				}
			}
		}
	}
}

// Neither of a table and its copy changes with the other.
func TestCopy(t *testing.T) {
	for _, h := range []*held{{table.New(), model{}}, crowd(t, 1), crowd(t, 5), crowd(t, most), make1(t, big, line(4, 2, 1)...)} {
		calls := []call{
			{kind: "Add", j: plain("new")}, {kind: "Add", j: full("newer", 2)}, {kind: "Change", id: 1, j: full("other")},
			{kind: "Change", id: 2, j: full("other", 3)}, {kind: "Remove", id: 1}, {kind: "Remove", id: h.Last()},
			{kind: "Pause", id: 2, paused: true, seen: 5}, {kind: "Pause", id: 2, paused: false, seen: maxTime - 1}, {kind: "See", id: 2, seen: 77},
		}
		for _, a := range calls {
			for _, b := range calls {
				was := &held{h.Copy(), h.m}
				c := &held{was.Copy(), h.m}
				was.do(t, a)
				c.stands(t, "the copy, behind "+a.kind)
				c.do(t, b)
				was.stands(t, "what was copied, behind "+b.kind)
				was.do(t, b)
				c.do(t, a)
				was.stands(t, "what was copied")
			}
		}
		h.stands(t, "behind all copies")
	}
}

// spoil overwrites Ids, and the room behind them.
func spoil(l []uint64) {
	for i := range l[:cap(l)] {
		l[:cap(l)][i] = 1<<50 + 3
	}
}

// What was told is the caller's own: changed, it changes nothing in the table, nor in what else was told.
func TestToldMemory(t *testing.T) {
	deps := []uint64{1, 2, 3, 4, 5}
	h := make1(t, 9, numbered(1, plain("a")), numbered(2, plain("b", 1)), numbered(3, plain("c", 2, 1)), numbered(4, plain("d")),
		numbered(5, plain("e", 4, 3, 2, 1)), numbered(6, full("f", deps...)))
	for range 2 {
		l, row, again := h.List(), h.Nodes(), h.List()
		for i := range l {
			spoil(l[i].Deps)
			l[i].Deps = append(l[i].Deps, 8)
			l[i].Name, l[i].Id = "z", 8
			for k := i + 1; k < len(l); k++ {
				if !equal(l[k], h.m.jobs[k]) {
					t.Fatalf("List: what is changed in %d changes %d: %+v", i, k, l[k])
				}
			}
			if !slices.EqualFunc(again, h.m.jobs, equal) {
				t.Fatalf("List told earlier is changed: %+v", again)
			}
		}
		for i := range row {
			if !slices.Equal(row[i].Deps, h.m.jobs[i].Deps) {
				t.Fatalf("Nodes: %v; want those of %+v", row, h.m.jobs)
			}
			spoil(row[i].Deps)
			row[i].Deps = append(row[i].Deps, 8)
			row[i].Id = 8
		}
		for i := range l[:cap(l)] {
			l[:cap(l)][i] = api.Job{}
		}
		for _, want := range h.m.jobs {
			a, _ := h.Find(want.Id)
			b, _ := h.Named(want.Name)
			spoil(a.Deps)
			if !equal(b, want) {
				t.Fatalf("Named: %+v; want %+v", b, want)
			}
			spoil(b.Deps)
			_ = append(a.Deps, b.Deps...)
		}
		h.stands(t, "behind changes of what was told")
		h.add(t, plain(fmt.Sprint("n", h.Last()), 6, 5))
	}
	// What a copy tells is not the table's either.
	c := h.Copy()
	for _, j := range c.List() {
		spoil(j.Deps)
	}
	h.stands(t, "behind changes of what a copy told")
}

// What was given is the caller's: a call does not change it, and changed later, it changes nothing in the table.
func TestGivenMemory(t *testing.T) {
	const mark = 1<<41 + 5
	room := []uint64{mark, 1, 2, 3, mark, mark}
	list := []api.Job{numbered(mark, plain("mark")), numbered(1, plain("a")), numbered(2, plain("b", 1)), numbered(3, plain("c")), numbered(4, plain("d")), numbered(mark, plain("mark"))}
	list[4].Deps = room[1:4]
	was := slices.Clone(list)
	for _, last := range []uint64{4, 3} {
		m, want := of(list[1:5], last)
		tab, e := table.Of(list[1:5], last)
		is(t, "Of", e, want)
		if !slices.EqualFunc(list, was, equal) || !slices.Equal(room, []uint64{mark, 1, 2, 3, mark, mark}) {
			t.Fatalf("Of changed what it was given: %+v, %d", list, room)
		}
		if e != api.OK {
			continue
		}
		h := &held{tab, m}
		spoil(room)
		spoil(list[2].Deps)
		list[1] = full("z", 9)
		clear(list[2:])
		h.stands(t, "behind a change of what Of was given")
		room = []uint64{mark, 1, 2, 3, mark, mark}
		list = slices.Clone(was)
		list[2], list[4] = numbered(2, plain("b", 1)), numbered(4, plain("d", room[1:4]...))
		list[4].Deps = room[1:4]
		was = slices.Clone(list)
	}
	// One list of Deps that several jobs share is no list that they share in the table.
	h := crowd(t, 4)
	shared := []uint64{1, 2, 3}
	for i, name := range []string{"x", "y", "z"} {
		n, e := h.Add(plain(name, shared...))
		is(t, "Add", e, api.OK)
		if i > 0 {
			is(t, "Change", h.Change(n, plain(name, shared[:i]...)), api.OK)
		}
	}
	h.m = model{slices.Concat(h.m.jobs, []api.Job{
		with(plain("x", 1, 2, 3), func(j *api.Job) { j.Id, j.Version = 5, 1 }),
		with(plain("y", 1), func(j *api.Job) { j.Id, j.Version = 6, 2 }),
		with(plain("z", 1, 2), func(j *api.Job) { j.Id, j.Version = 7, 2 }),
	}), 7}
	h.stands(t, "behind jobs that share Deps")
	spoil(shared)
	h.stands(t, "behind a change of Deps that jobs shared")
}

// All rows of some calls, of a few kinds; each row goes on with a copy.
func TestSmall(t *testing.T) {
	kinds := []call{
		{kind: "Add", j: plain("a")}, {kind: "Add", j: full("b", 1)}, {kind: "Add", j: plain("c", 2, 1)}, {kind: "Add", j: plain("d", 3)},
		{kind: "Remove", id: 1}, {kind: "Remove", id: 2}, {kind: "Remove", id: 3},
		{kind: "Change", id: 1, j: plain("a", 2)}, {kind: "Change", id: 1, j: plain("b")}, {kind: "Change", id: 2, j: full("a")},
		{kind: "Change", id: 2, j: plain("b", 3)}, {kind: "Change", id: 3, j: plain("c", 1)},
		{kind: "Pause", id: 1, paused: true, seen: 9}, {kind: "Pause", id: 1, seen: 9}, {kind: "Pause", id: 2, seen: 1800000000},
		{kind: "See", id: 1, seen: 5},
	}
	var row []call
	var search func(h *held, deep int)
	search = func(h *held, deep int) {
		for _, c := range kinds {
			row = append(row, c)
			g := &held{h.Copy(), h.m}
			if s := g.run(c); s != "" {
				t.Fatalf("%+v: %s", row, s)
			}
			if s := wrong(g.Table, g.m); s != "" {
				t.Fatalf("%+v: %s", row, s)
			}
			if deep > 1 {
				search(g, deep-1)
			}
			row = row[:len(row)-1]
		}
		if s := wrong(h.Table, h.m); s != "" {
			t.Fatalf("%+v: the copied one: %s", row, s)
		}
	}
	search(&held{table.New(), model{}}, 5)
}

// anyJob is a job by chance, mostly one that may be; its Deps are mostly Ids of jobs that are there.
func anyJob(r *rand.Rand, m model) api.Job {
	j := plain(fmt.Sprint("j", r.IntN(50)))
	if r.IntN(2) == 0 {
		j = full(j.Name)
	}
	j.Id, j.Version, j.Paused, j.Seen = r.Uint64N(40), r.Uint64(), r.IntN(2) == 0, r.Int64N(2000)-1
	for range r.IntN(4) {
		if len(m.jobs) > 0 {
			j.Deps = append(j.Deps, m.jobs[r.IntN(len(m.jobs))].Id)
		}
	}
	if r.IntN(3) > 0 {
		slices.Sort(j.Deps)
		j.Deps = slices.Compact(j.Deps)
	}
	if r.IntN(12) == 0 {
		j.Deps = append(j.Deps, m.last+r.Uint64N(3))
	}
	if r.IntN(15) == 0 {
		l := faults()
		l[r.IntN(len(l))].do(&j)
	}
	return j
}

// anyCall is a call by chance; adds of ten are Adds.
func anyCall(r *rand.Rand, m model, adds int) call {
	c := call{id: m.last + 2 - r.Uint64N(min(m.last+3, 50)), paused: r.IntN(2) == 0, seen: r.Int64N(4000) - 1}
	if len(m.jobs) > 0 && r.IntN(5) > 0 {
		c.id = m.jobs[r.IntN(len(m.jobs))].Id
	}
	if r.IntN(15) == 0 {
		c.seen = seens()[r.IntN(len(seens()))]
	}
	c.kind = []string{"Change", "Remove", "Pause", "See"}[r.IntN(4)]
	if r.IntN(10) < adds {
		c.kind = "Add"
	}
	c.j = anyJob(r, m)
	return c
}

// Over many calls in a row: the row may be, always, a number is given once, who refuses changes nothing, and Of of List and Last is the table.
func TestChance(t *testing.T) {
	r := rand.New(rand.NewPCG(15, 1))
	told := map[string]int{}
	for range 40 {
		h := &held{table.New(), model{}}
		given := map[uint64]bool{}
		for i := range 150 {
			// By turns, many are added, and many are gone.
			c := anyCall(r, h.m, []int{8, 2, 9, 1, 5}[i/30])
			was := h.Copy()
			before := h.m
			last := h.Last()
			h.do(t, c)
			told[c.kind]++
			if n := h.Last(); n != last {
				if given[n] || n != last+1 || c.kind != "Add" {
					t.Fatalf("%s gave %d behind %d", c.kind, n, last)
				}
				given[n] = true
			}
			if s := wrong(was, before); s != "" {
				t.Fatalf("a copy from ahead of %s: %s", c.kind, s)
			}
			if len(h.m.jobs) == most {
				told["full"]++
			}
			switch r.IntN(20) {
			case 0:
				h.Table = h.Copy()
			case 1:
				h.Table, _ = table.Of(h.List(), h.Last())
			}
		}
	}
	for _, what := range []string{"Add", "Change", "Remove", "Pause", "See", "full"} {
		if told[what] < 100 {
			t.Errorf("%s: %d alone", what, told[what])
		}
	}
}

// Rows of jobs by chance, mostly such as Of takes.
func TestChanceOf(t *testing.T) {
	r := rand.New(rand.NewPCG(15, 2))
	told := map[api.Errno]int{}
	for range 20000 {
		m := model{last: 60}
		id := uint64(0)
		for range r.IntN(36) {
			id += 1 + r.Uint64N(3)
			if r.IntN(100) == 0 {
				id -= r.Uint64N(3)
			}
			j := anyJob(r, m)
			j.Id, j.Name = id, fmt.Sprint("n", id)
			if r.IntN(60) == 0 {
				j.Name = fmt.Sprint("n", r.Uint64N(id+1))
			}
			m.jobs = append(m.jobs, j)
		}
		told[checkOf(t, m.jobs, max(id, 2)-r.Uint64N(3)+1)]++
	}
	for _, e := range []api.Errno{api.OK, api.ErrArg, api.ErrLong, api.ErrNone, api.ErrFull, api.ErrItem, api.ErrSame, api.ErrTwice} {
		if told[e] < 10 {
			t.Errorf("error %d: %d alone", e, told[e])
		}
	}
}

// wild is a job whose fields are anything.
func wild(r *rand.Rand) api.Job {
	n := func() int64 {
		return []int64{-1, 0, 1, 2, 60, maxTime, math.MinInt64, math.MaxInt64, int64(r.Uint64())}[r.IntN(9)]
	}
	j := api.Job{
		Id: uint64(n()), Name: strings.Repeat("w", r.IntN(40)), Expr: []string{"", "@daily", "* * * * *", "x", strings.Repeat(" ", 500)}[r.IntN(5)],
		Policy: int(n()), Grace: n(), Limit: int(n()), Retries: int(n()), Timeout: n(), Paused: r.IntN(2) == 0, Version: uint64(n()), Seen: n(),
	}
	if r.IntN(2) == 0 {
		j.Expr, j.Policy, j.Grace, j.Limit, j.Retries, j.Timeout, j.Seen = "@daily", 1, 0, 1, 0, 1, -1
	}
	for range []int{0, 1, 2, 8, 9, 100}[r.IntN(6)] {
		j.Deps = append(j.Deps, uint64(n()))
	}
	return j
}

// Whatever comes in, no call panics or goes on for ever.
func TestWild(t *testing.T) {
	r := rand.New(rand.NewPCG(15, 3))
	for range 300 {
		h := make1(t, []uint64{0, 3, 1 << 63, big - 1, big}[r.IntN(5)])
		for range 40 {
			c := call{kind: []string{"Add", "Change", "Remove", "Pause", "See"}[r.IntN(5)], id: h.m.last - r.Uint64N(4), j: wild(r), paused: r.IntN(2) == 0, seen: wild(r).Seen}
			h.do(t, c)
		}
		var l []api.Job
		for range r.IntN(50) {
			l = append(l, wild(r))
		}
		checkOf(t, l, uint64(wild(r).Seen))
	}
	many := slices.Repeat([]api.Job{numbered(1, plain("a"))}, 1<<20)
	is(t, "Of of very many jobs", ofError(t, many, big), api.ErrArg)
	is(t, "Add of very many Deps", errorOf(table.New().Add(plain("a", make([]uint64, 1<<22)...))), api.ErrLong)
}

// FuzzTable runs calls that are read off bytes, five a call.
func FuzzTable(f *testing.F) {
	f.Add(uint64(0), []byte{0, 0, 1, 0, 0, 0, 1, 2, 1, 0, 2, 1, 0, 0, 0, 1, 1, 3, 2, 9})
	f.Add(uint64(big-2), []byte{0, 0, 1, 0, 0, 3, 1, 2, 1, 7, 3, 1, 0, 0, 9, 4, 1, 3, 2, 200})
	f.Fuzz(func(t *testing.T, last uint64, b []byte) {
		h := make1(t, last)
		for ; len(b) >= 5; b = b[5:] {
			// Numbers are counted from the last one of the beginning on, as few are there.
			id := func(n byte) uint64 { return last + uint64(n%40) }
			j := plain(string(rune('a' + b[2]%34)))
			if b[2] >= 200 {
				j = full(j.Name)
			}
			for n := range b[3] % 10 {
				j.Deps = append(j.Deps, id(b[3]/10+n*b[4]))
			}
			if b[4] >= 240 {
				l := faults()
				l[int(b[4]-240)%len(l)].do(&j)
			}
			c := call{kind: []string{"Add", "Change", "Remove", "Pause", "See"}[b[0]%5], id: id(b[1]), j: j, paused: b[2]%2 == 0, seen: int64(b[4]) - 2}
			h.do(t, c)
		}
	})
}
