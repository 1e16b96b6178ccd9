package late_test

import (
	"encoding/binary"
	"fmt"
	"math"
	"math/big"
	"math/rand/v2"
	"slices"
	"testing"
	"time"

	"ringer/api"
	"ringer/late"
)

const (
	maxTime = 13569465600 // the first moment that may not be
	most    = 64          // how many moments are due, how many come, and for how many there is room, at most
	day     = 86400
)

// policies are all that there are.
var policies = []int{api.PlSkip, api.PlAll, api.PlLatest}

// moments are the moments that an edge is at, those that may not be among them, rising.
var moments = []int64{math.MinInt64, math.MinInt64 + 1, -maxTime, -1, 0, 1, 2, maxTime - 2, maxTime - 1, maxTime, maxTime + 1, math.MaxInt64 - 1, math.MaxInt64}

// example is the lot of the chapter's examples.
func example() api.Lot {
	return api.Lot{Policy: api.PlSkip, Grace: 100, Now: 1000, Due: []int64{500}, Come: []int64{800, 950}, Room: 9}
}

// with is a lot of which something is changed; it shares nothing with the one that is handed in.
func with(l api.Lot, changes ...func(*api.Lot)) api.Lot {
	l.Due, l.Come = slices.Clone(l.Due), slices.Clone(l.Come)
	for _, c := range changes {
		c(&l)
	}
	return l
}

// row are so many moments from one on, so far from one another.
func row(n int, first, by int64) (l []int64) {
	for i := range n {
		l = append(l, first+int64(i)*by)
	}
	return l
}

// allowed tells whether a lot may be, word for word as the chapter tells it, each moment held against each other one.
func allowed(l api.Lot) bool {
	if !slices.Contains(policies, l.Policy) || l.Grace < 0 {
		return false
	}
	for _, row := range [][]int64{l.Due, l.Come} {
		if len(row) > most {
			return false
		}
		for i, at := range row {
			if at < 0 || slices.ContainsFunc(row[:i], func(ahead int64) bool { return ahead >= at }) {
				return false
			}
		}
	}
	for _, at := range l.Come {
		if at > l.Now || slices.ContainsFunc(l.Due, func(was int64) bool { return was >= at }) {
			return false
		}
	}
	return l.Now >= 0 && l.Now <= maxTime-1 && l.Room >= 0 && l.Room <= most && l.Room >= len(l.Due)
}

// isLate tells whether a moment is later than the grace, by numbers without an end.
func isLate(l api.Lot, at int64) bool {
	age := new(big.Int).Sub(big.NewInt(l.Now), big.NewInt(at))
	return age.Cmp(big.NewInt(l.Grace)) > 0
}

// firing is a moment of a lot, and what becomes of it.
type firing struct {
	at           int64
	comes, isDue bool
}

// judged is the verdict, word for word as the chapter tells it, each moment by itself.
func judged(l api.Lot) (due, skipped []int64, e api.Errno) {
	if !allowed(l) {
		return nil, nil, api.ErrArg
	}
	var all []firing
	for _, at := range l.Due {
		all = append(all, firing{at: at})
	}
	for _, at := range l.Come {
		all = append(all, firing{at: at, comes: true})
	}
	count := 0
	for i, f := range all {
		switch l.Policy {
		case api.PlSkip:
			all[i].isDue = !f.comes || !isLate(l, f.at)
		case api.PlAll:
			all[i].isDue = true
		case api.PlLatest:
			all[i].isDue = i == len(all)-1
		}
		if all[i].isDue {
			count++
		}
	}
	for i := 0; count > l.Room; i++ {
		if all[i].comes && all[i].isDue {
			all[i].isDue = false
			count--
		}
	}
	for _, f := range all {
		if f.isDue {
			due = append(due, f.at)
		} else {
			skipped = append(skipped, f.at)
		}
	}
	return due, skipped, api.OK
}

// wrong is how the calls do not tell of a lot what the chapter's words do; nothing, if they do.
func wrong(l api.Lot) string {
	if got, want := late.May(l), allowed(l); got != want {
		return fmt.Sprintf("May(%+v) = %v; want %v", l, got, want)
	}
	due, skipped, e := late.Judge(l)
	wantDue, wantSkipped, want := judged(l)
	if e != want || !slices.Equal(due, wantDue) || !slices.Equal(skipped, wantSkipped) {
		return fmt.Sprintf("Judge(%+v) = %d; %d, %d; want %d; %d, %d", l, due, skipped, e, wantDue, wantSkipped, want)
	}
	return ""
}

// check fails unless the calls tell of a lot what the chapter's words do.
func check(t testing.TB, l api.Lot) {
	t.Helper()
	if s := wrong(l); s != "" {
		t.Fatal(s)
	}
}

// may fails unless a lot may be, or may not, as told, and the calls tell so.
func may(t testing.TB, what string, l api.Lot, want bool) {
	t.Helper()
	if got := late.May(l); got != want {
		t.Errorf("%s: May(%+v) = %v; want %v", what, l, got, want)
	}
	due, skipped, e := late.Judge(l)
	if want && e != api.OK || !want && (e != api.ErrArg || len(due) > 0 || len(skipped) > 0) {
		t.Errorf("%s: Judge(%+v) = %d; %d, %d; may be: %v", what, l, due, skipped, e, want)
	}
	check(t, l)
}

// verdict fails unless Judge tells these of a lot.
func verdict(t testing.TB, what string, l api.Lot, due, skipped []int64) {
	t.Helper()
	gotDue, gotSkipped, e := late.Judge(l)
	if e != api.OK || !slices.Equal(gotDue, due) || !slices.Equal(gotSkipped, skipped) {
		t.Errorf("%s: Judge(%+v) = %d; %d, %d; want %d; %d, 0", what, l, gotDue, gotSkipped, e, due, skipped)
	}
	check(t, l)
}

func TestExamples(t *testing.T) {
	for _, c := range []struct {
		policy, room int
		due, skipped []int64
	}{
		{api.PlSkip, 9, []int64{500, 950}, []int64{800}},
		{api.PlAll, 9, []int64{500, 800, 950}, nil},
		{api.PlLatest, 9, []int64{950}, []int64{500, 800}},
		{api.PlAll, 2, []int64{500, 950}, []int64{800}},
	} {
		l := with(example(), func(l *api.Lot) { l.Policy, l.Room = c.policy, c.room })
		may(t, "an example", l, true)
		verdict(t, "an example", l, c.due, c.skipped)
	}
}

// The numbers of policies are those of package api.
func TestPolicy(t *testing.T) {
	for _, p := range []int{math.MinInt, math.MinInt32, -3, -2, -1, 0, 1, 2, 3, 4, 5, 1 << 8, 1<<8 + 1, math.MaxInt32, math.MaxInt} {
		l := with(example(), func(l *api.Lot) { l.Policy = p })
		may(t, fmt.Sprint("Policy ", p), l, p == 1 || p == 2 || p == 3)
		may(t, fmt.Sprint("Policy ", p, ", nothing else"), api.Lot{Policy: p}, p == 1 || p == 2 || p == 3)
	}
}

// graces are graces, those that may not be among them, rising.
var graces = []int64{math.MinInt64, math.MinInt64 + 1, -maxTime, -2, -1, 0, 1, 99, 100, api.MaxGrace, api.MaxGrace + 1, maxTime - 1, maxTime, math.MaxInt64 - 1, math.MaxInt64}

func TestGrace(t *testing.T) {
	for _, p := range policies {
		for _, g := range graces {
			l := with(example(), func(l *api.Lot) { l.Policy, l.Grace = p, g })
			may(t, fmt.Sprint("Grace ", g), l, g >= 0)
			may(t, fmt.Sprint("Grace ", g, ", no moments"), api.Lot{Policy: p, Grace: g}, g >= 0)
		}
	}
}

// Whether a Now may be does not hang on which moments there are; but none comes behind it.
func TestNow(t *testing.T) {
	for _, p := range policies {
		for _, now := range slices.Concat(moments, []int64{949, 950, 951}) {
			isMoment := now >= 0 && now <= maxTime-1
			what := fmt.Sprint("Now ", now)
			may(t, what, api.Lot{Policy: p, Now: now}, isMoment)
			may(t, what, api.Lot{Policy: p, Now: now, Room: most}, isMoment)
			may(t, what, api.Lot{Policy: p, Now: now, Due: []int64{500}, Room: 1}, isMoment)
			may(t, what, api.Lot{Policy: p, Now: now, Come: []int64{0}, Room: 1}, isMoment)
			may(t, what, with(example(), func(l *api.Lot) { l.Policy, l.Now = p, now }), isMoment && now >= 950)
		}
	}
}

func TestRoomMay(t *testing.T) {
	for _, p := range policies {
		for _, n := range []int{0, 1, 2, 63, 64} {
			for _, room := range []int{math.MinInt, math.MinInt32, -64, -1, 0, 1, n - 1, n, n + 1, 63, 64, 65, 1 << 8, math.MaxInt32, math.MaxInt} {
				l := api.Lot{Policy: p, Now: 9000, Due: row(n, 0, 60), Room: room}
				may(t, fmt.Sprint(n, " due, Room ", room), l, room >= n && room <= 64)
				l.Come = row(3, 8000, 1)
				may(t, fmt.Sprint(n, " due, 3 come, Room ", room), l, room >= n && room <= 64)
			}
		}
	}
}

// How many are due, and how many come, is bounded each by itself; none and an empty list are one.
func TestCounts(t *testing.T) {
	counts := []int{0, 1, 2, 63, 64, 65, 66, 128, 1000}
	for _, p := range policies {
		for _, was := range counts {
			for _, come := range counts {
				for _, room := range []int{was, 63, 64, 65, 128} {
					l := api.Lot{Policy: p, Grace: 60, Now: 5000, Due: row(was, 0, 1), Come: row(come, 1000, 1), Room: room}
					want := was <= 64 && come <= 64 && room >= was && room <= 64
					may(t, fmt.Sprint(was, " due, ", come, " come, Room ", room), l, want)
				}
			}
		}
		for _, l := range []api.Lot{{}, {Due: []int64{}}, {Come: []int64{}}, {Due: []int64{}, Come: []int64{}}} {
			l.Policy = p
			may(t, "none", l, true)
			verdict(t, "none", l, nil, nil)
		}
	}
}

// Of those that are due it is told just that they rise, and are not below 0.
func TestDueMoments(t *testing.T) {
	for _, p := range policies {
		for _, at := range moments {
			l := api.Lot{Policy: p, Now: 1000, Due: []int64{at}, Room: 1}
			may(t, fmt.Sprint("due ", at), l, at >= 0)
			for _, now := range []int64{0, 1, 1000, maxTime - 1} {
				l.Now = now
				may(t, fmt.Sprint("due ", at, ", Now ", now), l, at >= 0)
			}
			for _, other := range moments {
				l = api.Lot{Policy: p, Now: 1000, Due: []int64{at, other}, Room: 2}
				may(t, fmt.Sprint("due ", at, ", ", other), l, at >= 0 && at < other)
			}
		}
	}
}

func TestComeMoments(t *testing.T) {
	for _, p := range policies {
		for _, at := range moments {
			for _, now := range []int64{0, 1, 2, 3, 1000, maxTime - 2, maxTime - 1} {
				l := api.Lot{Policy: p, Now: now, Come: []int64{at}, Room: 1}
				may(t, fmt.Sprint(at, " comes, Now ", now), l, at >= 0 && at <= now)
				for _, other := range moments {
					l = api.Lot{Policy: p, Now: now, Come: []int64{at, other}, Room: 2}
					may(t, fmt.Sprint(at, " and ", other, " come, Now ", now), l, at >= 0 && at < other && other <= now)
					l = api.Lot{Policy: p, Now: now, Due: []int64{at}, Come: []int64{other}, Room: 2}
					may(t, fmt.Sprint("due ", at, ", ", other, " comes, Now ", now), l, at >= 0 && at < other && other <= now)
				}
			}
		}
	}
}

// One may come at Now, and ahead of it, but not behind it; one that is due may stand behind it.
func TestAboutNow(t *testing.T) {
	for _, p := range policies {
		for _, now := range []int64{1, 2, 1000, maxTime - 2, maxTime - 1} {
			for _, by := range []int64{-1, 0, 1} {
				l := api.Lot{Policy: p, Now: now, Come: []int64{now + by}, Room: 9}
				may(t, fmt.Sprint("comes ", by, " from Now"), l, by <= 0)
				l = api.Lot{Policy: p, Now: now, Due: []int64{0}, Come: []int64{now + by}, Room: 9}
				may(t, fmt.Sprint("comes ", by, " from Now, 0 due"), l, by <= 0 && now+by > 0)
				l = api.Lot{Policy: p, Now: now, Due: []int64{now + by}, Room: 9}
				may(t, fmt.Sprint("due ", by, " from Now"), l, true)
				verdict(t, fmt.Sprint("due ", by, " from Now"), l, []int64{now + by}, nil)
				l.Come = []int64{now}
				may(t, fmt.Sprint("due ", by, " from Now, which comes"), l, by < 0)
			}
			l := api.Lot{Policy: p, Now: now, Due: []int64{now + 1, now + 2, math.MaxInt64}, Room: 3}
			may(t, "all due behind Now", l, true)
		}
	}
}

// good are lots that may be, of some sizes, with a row in which each moment may be made another one.
func good() (l []api.Lot) {
	for _, n := range [][2]int{{0, 1}, {1, 0}, {1, 1}, {2, 0}, {0, 2}, {3, 3}, {5, 1}, {1, 5}, {64, 64}, {64, 0}, {0, 64}} {
		for _, p := range policies {
			l = append(l, api.Lot{
				Policy: p, Grace: 3000, Now: 20000, Due: row(n[0], 60, 60), Come: row(n[1], 10000, 100), Room: most,
			})
		}
	}
	return l
}

// fault is what may be wrong with a lot.
type fault struct {
	what string
	do   func(*api.Lot)
}

// moment is a fault of one moment of a lot.
func moment(i int, what string, is int64) fault {
	return fault{fmt.Sprint("the moment ", i, " ", what), func(l *api.Lot) { *place(l, i) = is }}
}

// swap is a fault of two moments that stand one behind the other.
func swap(i int) fault {
	return fault{fmt.Sprint("the moments ", i, " and ", i+1, " swapped"), func(l *api.Lot) {
		a, b := place(l, i), place(l, i+1)
		*a, *b = *b, *a
	}}
}

// place is where a moment of a lot stands: one of those that are due, and behind these one of those that come.
func place(l *api.Lot, i int) *int64 {
	if i < len(l.Due) {
		return &l.Due[i]
	}
	return &l.Come[i-len(l.Due)]
}

// twin is a fault of two moments that are the same.
func twin(i int) fault {
	return fault{fmt.Sprint("the moments ", i, " and ", i+1, " the same"), func(l *api.Lot) { *place(l, i+1) = *place(l, i) }}
}

// momentFaults are faults of each moment of a lot.
func momentFaults(l api.Lot) (f []fault) {
	n := len(l.Due) + len(l.Come)
	for i := range n {
		f = append(f, moment(i, "-1", -1), moment(i, "the least number", math.MinInt64))
		if i > 0 {
			f = append(f, moment(i, "0, behind another one", 0))
		}
		if i+1 < n {
			f = append(f, swap(i), twin(i), moment(i, "far on", math.MaxInt64), moment(i, "just behind the next one", *place(&l, i+1)+1))
		}
		if i >= len(l.Due) {
			f = append(f,
				moment(i, "just behind Now", l.Now+1), moment(i, "MaxTime", maxTime), moment(i, "the greatest number", math.MaxInt64))
		}
	}
	return f
}

// fieldFaults are faults of a lot's other fields, and of its rows as a whole.
func fieldFaults() []fault {
	return []fault{
		{"no Policy", func(l *api.Lot) { l.Policy = 0 }},
		{"a Policy of 4", func(l *api.Lot) { l.Policy = 4 }},
		{"a Policy of -1", func(l *api.Lot) { l.Policy = -1 }},
		{"a Grace of -1", func(l *api.Lot) { l.Grace = -1 }},
		{"the least Grace", func(l *api.Lot) { l.Grace = math.MinInt64 }},
		{"a Now of -1", func(l *api.Lot) { l.Now = -1 }},
		{"a Now of MaxTime", func(l *api.Lot) { l.Now = maxTime }},
		{"a Room of 65", func(l *api.Lot) { l.Room = 65 }},
		{"a Room of one less than Due has", func(l *api.Lot) { l.Room = len(l.Due) - 1 }},
		{"a Room of -1", func(l *api.Lot) { l.Room = -1 }},
		{"65 due", func(l *api.Lot) { l.Due = row(65, 0, 1) }},
		{"65 that come", func(l *api.Lot) { l.Come = row(65, 10000, 1) }},
	}
}

// faults are faults of a lot, with each of which it may not be.
func faults(l api.Lot) []fault { return append(momentFaults(l), fieldFaults()...) }

// One fault is enough, in whichever place.
func TestFault(t *testing.T) {
	for _, l := range good() {
		may(t, "no fault", l, true)
		for _, f := range faults(l) {
			may(t, f.what, with(l, f.do), false)
		}
	}
}

// Two faults of two fields do not make each other good; of moments they are as the words have it.
func TestFaults(t *testing.T) {
	for _, l := range good() {
		if len(l.Due)+len(l.Come) > 6 {
			continue
		}
		for _, a := range faults(l) {
			for _, b := range faults(l) {
				check(t, with(l, a.do, b.do))
			}
		}
	}
}

// Each pair of moments, wherever the two stand, may be made the same, or swapped: then the lot may not be.
func TestPairs(t *testing.T) {
	for _, l := range good() {
		n := len(l.Due) + len(l.Come)
		for i := range n {
			for j := range i {
				may(t, fmt.Sprint(j, " and ", i, " swapped"), with(l, func(l *api.Lot) {
					a, b := place(l, i), place(l, j)
					*a, *b = *b, *a
				}), false)
				may(t, fmt.Sprint(i, " the same as ", j), with(l, func(l *api.Lot) { *place(l, i) = *place(l, j) }), false)
				may(t, fmt.Sprint(j, " the same as ", i), with(l, func(l *api.Lot) { *place(l, j) = *place(l, i) }), false)
			}
		}
	}
}

// Moments may stand as near one another as they can, also the last one that is due and the first one that comes.
func TestNear(t *testing.T) {
	for _, p := range policies {
		for was := range 5 {
			for come := range 5 {
				l := api.Lot{Policy: p, Now: int64(max(was+come-1, 0)), Due: row(was, 0, 1), Come: row(come, int64(was), 1), Room: was}
				may(t, "near", l, true)
				l.Now--
				may(t, "Now one less", l, come == 0 && l.Now >= 0)
			}
		}
	}
}

// A moment that comes just as late as the grace is not skipped for that; one second more, and under PlSkip it is.
func TestLate(t *testing.T) {
	for _, g := range []int64{0, 1, 59, 60, 100, api.MaxGrace - 1, api.MaxGrace, api.MaxGrace + 1, maxTime - 3, maxTime - 2} {
		for _, now := range []int64{g + 1, g + 2, g + 1000, maxTime - 1} {
			if now > maxTime-1 {
				continue
			}
			for _, by := range []int64{-1, 0, 1} {
				at := now - g - by
				if at < 0 || at > now {
					continue
				}
				for _, p := range policies {
					what := fmt.Sprint("Policy ", p, ", Grace ", g, ", Now ", now, ", ", by, " more than the grace")
					due, skipped := []int64{at}, []int64(nil)
					if p == api.PlSkip && by > 0 {
						due, skipped = skipped, due
					}
					verdict(t, what, api.Lot{Policy: p, Grace: g, Now: now, Come: []int64{at}, Room: 9}, due, skipped)
				}
			}
		}
	}
}

// Three that come about the grace's end: which are skipped, of each policy.
func TestAboutGrace(t *testing.T) {
	l := api.Lot{Grace: 100, Now: 1000, Due: []int64{7, 8}, Come: []int64{899, 900, 901}, Room: 64}
	for _, c := range []struct {
		policy       int
		due, skipped []int64
	}{
		{api.PlSkip, []int64{7, 8, 900, 901}, []int64{899}},
		{api.PlAll, []int64{7, 8, 899, 900, 901}, nil},
		{api.PlLatest, []int64{901}, []int64{7, 8, 899, 900}},
	} {
		l.Policy = c.policy
		verdict(t, "about the grace's end", l, c.due, c.skipped)
	}
}

// Those that were due are never too late, however late they are.
func TestDueIsNotLate(t *testing.T) {
	l := api.Lot{Policy: api.PlSkip, Grace: 0, Now: maxTime - 1, Due: []int64{0, 1, 1000, maxTime - 3}, Come: []int64{maxTime - 2, maxTime - 1}, Room: 64}
	verdict(t, "due of long ago", l, []int64{0, 1, 1000, maxTime - 3, maxTime - 1}, []int64{maxTime - 2})
	l.Come = nil
	verdict(t, "due of long ago alone", l, []int64{0, 1, 1000, maxTime - 3}, nil)
}

// A grace may be as great as a number can be.
func TestFarGrace(t *testing.T) {
	for _, g := range []int64{maxTime - 1, maxTime, math.MaxInt64 - maxTime, math.MaxInt64 - 1, math.MaxInt64} {
		l := api.Lot{Policy: api.PlSkip, Grace: g, Now: maxTime - 1, Come: []int64{0, 1, maxTime - 1}, Room: 64}
		verdict(t, fmt.Sprint("Grace ", g), l, []int64{0, 1, maxTime - 1}, nil)
		l = api.Lot{Policy: api.PlSkip, Grace: g, Now: 0, Due: []int64{math.MaxInt64}, Room: 64}
		verdict(t, fmt.Sprint("Grace ", g), l, []int64{math.MaxInt64}, nil)
	}
}

// Nothing, something due alone, something that comes alone, and both.
func TestKinds(t *testing.T) {
	was, come := []int64{100, 200}, []int64{300, 990}
	for _, c := range []struct {
		policy       int
		was, come    []int64
		due, skipped []int64
	}{
		{api.PlSkip, nil, nil, nil, nil},
		{api.PlAll, nil, nil, nil, nil},
		{api.PlLatest, nil, nil, nil, nil},
		{api.PlSkip, was, nil, []int64{100, 200}, nil},
		{api.PlAll, was, nil, []int64{100, 200}, nil},
		{api.PlLatest, was, nil, []int64{200}, []int64{100}},
		{api.PlSkip, nil, come, []int64{990}, []int64{300}},
		{api.PlAll, nil, come, []int64{300, 990}, nil},
		{api.PlLatest, nil, come, []int64{990}, []int64{300}},
		{api.PlSkip, was, come, []int64{100, 200, 990}, []int64{300}},
		{api.PlAll, was, come, []int64{100, 200, 300, 990}, nil},
		{api.PlLatest, was, come, []int64{990}, []int64{100, 200, 300}},
	} {
		l := api.Lot{Policy: c.policy, Grace: 60, Now: 1000, Due: c.was, Come: c.come, Room: 9}
		verdict(t, "kinds", l, c.due, c.skipped)
	}
}

// Where there is no room the oldest ones that come are skipped, by ones, by a few, by all; those that were due stay.
func TestRoom(t *testing.T) {
	was, come := []int64{100, 200}, []int64{300, 400, 500, 600}
	for room, skipped := range map[int][]int64{
		2: {300, 400, 500, 600}, 3: {300, 400, 500}, 4: {300, 400}, 5: {300}, 6: nil, 7: nil, 64: nil,
	} {
		due := slices.Concat(was, come[len(skipped):])
		for _, p := range []int{api.PlSkip, api.PlAll} {
			l := api.Lot{Policy: p, Grace: 700, Now: 1000, Due: was, Come: come, Room: room}
			verdict(t, fmt.Sprint("Policy ", p, ", Room ", room), l, due, skipped)
		}
		l := api.Lot{Policy: api.PlLatest, Grace: 700, Now: 1000, Due: was, Come: come, Room: room}
		verdict(t, fmt.Sprint("PlLatest, Room ", room), l, []int64{600}, []int64{100, 200, 300, 400, 500})
	}
}

// With Room 0 all that come are skipped, whatever the policy.
func TestNoRoom(t *testing.T) {
	for _, p := range policies {
		for _, g := range []int64{0, 1, 100, math.MaxInt64} {
			l := api.Lot{Policy: p, Grace: g, Now: 1000, Room: 0}
			verdict(t, "Room 0, none", l, nil, nil)
			l.Come = []int64{1000}
			verdict(t, "Room 0, one", l, nil, []int64{1000})
			l.Come = []int64{0, 500, 900, 1000}
			verdict(t, "Room 0, some", l, nil, []int64{0, 500, 900, 1000})
			l.Come = row(64, 0, 1)
			verdict(t, "Room 0, 64", l, nil, row(64, 0, 1))
		}
	}
}

// Room just as many as were due: none that comes is due, but under PlLatest, where those that were due make room.
func TestFullRoom(t *testing.T) {
	for n := 1; n <= most; n++ {
		was, come := row(n, 0, 2), []int64{500, 900, 1000}
		for _, p := range []int{api.PlSkip, api.PlAll} {
			for _, g := range []int64{0, 100, math.MaxInt64} {
				l := api.Lot{Policy: p, Grace: g, Now: 1000, Due: was, Come: come, Room: n}
				verdict(t, fmt.Sprint(n, " due, Policy ", p), l, was, come)
			}
		}
		l := api.Lot{Policy: api.PlLatest, Now: 1000, Due: was, Come: come, Room: n}
		verdict(t, fmt.Sprint(n, " due, PlLatest"), l, []int64{1000}, slices.Concat(was, come[:2]))
	}
}

// Those that are skipped for being late leave room to the others; where that is not enough those behind them go next.
func TestLateAndRoom(t *testing.T) {
	l := api.Lot{Policy: api.PlSkip, Grace: 100, Now: 1000, Due: []int64{50}, Come: []int64{700, 800, 900, 950, 1000}}
	for room, skipped := range map[int][]int64{
		1: {700, 800, 900, 950, 1000}, // 700 and 800 for being late, the others for want of room
		2: {700, 800, 900, 950},
		3: {700, 800, 900},
		4: {700, 800}, // just as many are due as there is room for
		5: {700, 800},
		6: {700, 800},
	} {
		l.Room = room
		verdict(t, fmt.Sprint("Room ", room), l, slices.Concat([]int64{50}, l.Come[len(skipped):]), skipped)
	}
}

// Under PlLatest the last one is due, however late it is.
func TestLatest(t *testing.T) {
	far := int64(math.MaxInt64)
	for _, c := range []struct {
		what         string
		was, come    []int64
		room         int
		due, skipped []int64
	}{
		{"one due", []int64{5}, nil, 1, []int64{5}, nil},
		{"some due", []int64{5, 6, 7}, nil, 3, []int64{7}, []int64{5, 6}},
		{"some due, all behind Now", []int64{2000, 3000, far}, nil, 3, []int64{far}, []int64{2000, 3000}},
		{"some due, more room", []int64{5, 6, 7}, nil, 64, []int64{7}, []int64{5, 6}},
		{"one that comes", nil, []int64{1}, 1, []int64{1}, nil},
		{"some that come", nil, []int64{1, 2, 1000}, 1, []int64{1000}, []int64{1, 2}},
		{"some that come, more room", nil, []int64{1, 2, 3}, 64, []int64{3}, []int64{1, 2}},
		{"no room beside the one due", []int64{5}, []int64{6}, 1, []int64{6}, []int64{5}},
		{"no room beside those due", []int64{5, 6}, []int64{7, 8}, 2, []int64{8}, []int64{5, 6, 7}},
		{"no room at all", nil, []int64{1, 2}, 0, nil, []int64{1, 2}},
		{"64 due and 64 that come", row(64, 0, 1), row(64, 64, 1), 64, []int64{127}, row(127, 0, 1)},
	} {
		for _, g := range []int64{0, 100, math.MaxInt64} {
			l := api.Lot{Policy: api.PlLatest, Grace: g, Now: 1000, Due: c.was, Come: c.come, Room: c.room}
			verdict(t, c.what, l, c.due, c.skipped)
		}
	}
}

// Lots with as many moments as there may be, and each number of late ones, and each room.
func TestGreatest(t *testing.T) {
	come := row(64, 1000, 10)
	now := come[63]
	for _, was := range []int{0, 1, 32, 63, 64} {
		due := row(was, 0, 3)
		for lates := range 65 {
			for room := was; room <= most; room++ {
				l := api.Lot{Policy: api.PlSkip, Grace: int64(630 - 10*lates), Now: now, Due: due, Come: come, Room: room}
				if lates == 64 {
					l.Now, l.Grace = now+1, 0
				}
				gone := max(lates, was+64-room)
				verdict(t, fmt.Sprint(was, " due, ", lates, " late, Room ", room), l, slices.Concat(due, come[gone:]), come[:gone])
			}
		}
	}
}

// subsets goes over all ways in which each of n moments is due, comes, or does neither.
func subsets(n int, do func(was, come []int64)) {
	ways := 1
	for range n {
		ways *= 3
	}
	for way := range ways {
		var was, come []int64
		for i := range n {
			switch way % 3 {
			case 1:
				was = append(was, int64(i))
			case 2:
				come = append(come, int64(i))
			}
			way /= 3
		}
		do(was, come)
	}
}

// All small lots, those that may not be among them.
func TestSmall(t *testing.T) {
	count := 0
	subsets(6, func(was, come []int64) {
		for policy := range 5 {
			for grace := int64(-1); grace <= 6; grace++ {
				for now := int64(-1); now <= 7; now++ {
					for room := -1; room <= 7; room++ {
						l := api.Lot{Policy: policy, Grace: grace, Now: now, Due: was, Come: come, Room: room}
						check(t, l)
						if !allowed(l) {
							continue
						}
						count++
						if s := broken(l); s != "" {
							t.Fatalf("%s: %+v", s, l)
						}
					}
				}
			}
		}
	})
	if count < 10000 {
		t.Errorf("%d of the small lots may be; too few", count)
	}
}

// All rows of up to three moments of a few, in any order, with twins.
func TestSmallRows(t *testing.T) {
	rows := [][]int64{nil, {}}
	for last := rows[:1]; len(last[0]) < 3; {
		var longer [][]int64
		for _, r := range last {
			for at := int64(-1); at <= 4; at++ {
				longer = append(longer, append(slices.Clone(r), at))
			}
		}
		rows, last = append(rows, longer...), longer
	}
	for _, was := range rows {
		for _, come := range rows {
			for _, p := range policies {
				check(t, api.Lot{Policy: p, Grace: 1, Now: 3, Due: was, Come: come, Room: 4})
			}
		}
	}
}

// A lot is neither changed nor kept: what stands amid other things of the caller's is as it was behind the call.
func TestGivenMemory(t *testing.T) {
	const mark = -7
	for _, l := range append(good(), example()) {
		for _, room := range []int{len(l.Due), min(len(l.Due)+1, most), most} {
			// Both rows stand in one piece of memory, with room behind each.
			around := slices.Concat([]int64{mark, mark}, l.Due, []int64{mark, mark, mark}, l.Come, []int64{mark, mark, mark})
			was := slices.Clone(around)
			n := len(l.Due)
			given := l
			given.Room = room
			given.Due, given.Come = around[2:2+n], around[5+n:5+n+len(l.Come)]
			wantDue, wantSkipped, _ := judged(given)
			for range 2 {
				if !late.May(given) {
					t.Fatalf("May(%+v) = false", given)
				}
				due, skipped, e := late.Judge(given)
				if e != api.OK || !slices.Equal(around, was) {
					t.Fatalf("Judge(%+v): %d; %d behind it; want %d", given, e, around, was)
				}
				spoil(due)
				spoil(skipped)
				if !slices.Equal(around, was) {
					t.Fatalf("Judge(%+v): what was told is the lot's", given)
				}
			}
			due, skipped, _ := late.Judge(given)
			spoil(around)
			if !slices.Equal(due, wantDue) || !slices.Equal(skipped, wantSkipped) {
				t.Fatalf("Judge: what was told changed with the lot: %d, %d; want %d, %d", due, skipped, wantDue, wantSkipped)
			}
		}
	}
}

// spoil overwrites moments, and the room behind them.
func spoil(l []int64) {
	for i := range l[:cap(l)] {
		l[:cap(l)][i] = -99
	}
}

// The two rows that are told share nothing: changed or appended to, neither changes the other.
func TestToldMemory(t *testing.T) {
	for _, l := range append(good(), example()) {
		for _, room := range []int{len(l.Due), min(len(l.Due)+1, most), most} {
			l.Room = room
			wantDue, wantSkipped, _ := judged(l)
			due, skipped, _ := late.Judge(l)
			_ = append(due, -1, -2, -3)
			_ = append(skipped, -4, -5, -6)
			if !slices.Equal(due, wantDue) || !slices.Equal(skipped, wantSkipped) {
				t.Fatalf("Judge(%+v): %d, %d behind appends; want %d, %d", l, due, skipped, wantDue, wantSkipped)
			}
			spoil(due)
			if !slices.Equal(skipped, wantSkipped) {
				t.Fatalf("Judge(%+v): skipped changed with due: %d; want %d", l, skipped, wantSkipped)
			}
			due, skipped, _ = late.Judge(l)
			spoil(skipped)
			if !slices.Equal(due, wantDue) {
				t.Fatalf("Judge(%+v): due changed with skipped: %d; want %d", l, due, wantDue)
			}
			first, firstSkipped, _ := late.Judge(l)
			second, secondSkipped, _ := late.Judge(l)
			spoil(first)
			spoil(firstSkipped)
			if !slices.Equal(second, wantDue) || !slices.Equal(secondSkipped, wantSkipped) {
				t.Fatalf("Judge(%+v): two answers share memory", l)
			}
		}
	}
}

// rising are so many moments by chance from first to last; fewer, if some are the same.
func rising(r *rand.Rand, n int, first, last int64) []int64 {
	if last < first {
		return nil
	}
	var l []int64
	for range n {
		l = append(l, first+r.Int64N(last-first+1))
	}
	slices.Sort(l)
	return slices.Compact(l)
}

// anyGood is a lot by chance that may be.
func anyGood(r *rand.Rand) api.Lot {
	span := []int64{3, 10, 100, 5000, day, maxTime - 1}[r.IntN(6)]
	now := span + r.Int64N(maxTime-span)
	edge := now - span + r.Int64N(span+1)
	l := api.Lot{
		Policy: policies[r.IntN(3)], Grace: []int64{0, 1, span / 3, span, r.Int64N(span + 1), math.MaxInt64}[r.IntN(6)], Now: now,
		Due: rising(r, r.IntN(most+1), now-span, edge), Come: rising(r, r.IntN(most+1), edge+1, now),
	}
	if r.IntN(8) == 0 {
		l.Come = nil
		l.Due = rising(r, r.IntN(most+1), 0, math.MaxInt64-1)
	}
	if r.IntN(4) == 0 {
		l.Due = nil
	}
	l.Room = len(l.Due) + r.IntN(most-len(l.Due)+1)
	if r.IntN(3) == 0 {
		l.Room = len(l.Due) + r.IntN(min(3, most-len(l.Due))+1)
	}
	return l
}

// rises tells whether each moment is above the one ahead of it.
func rises(l []int64) bool {
	for i := 1; i < len(l); i++ {
		if l[i-1] >= l[i] {
			return false
		}
	}
	return true
}

// broken is what of P16.3 does not hold of a lot that may be; nothing, if all does.
func broken(l api.Lot) string {
	due, skipped, e := late.Judge(l)
	all := slices.Sorted(slices.Values(slices.Concat(due, skipped)))
	inTime := slices.DeleteFunc(slices.Clone(l.Come), func(at int64) bool { return isLate(l, at) })
	switch {
	case !late.May(l) || e != api.OK:
		return "it may be, and is judged"
	case !slices.Equal(all, slices.Concat(l.Due, l.Come)):
		return "each moment is either due or skipped, once"
	case !rises(due) || !rises(skipped):
		return "both rise"
	case len(due) > l.Room:
		return "more than Room are never due"
	case len(inTime) > 0 && l.Room > len(l.Due) && !slices.Contains(due, inTime[len(inTime)-1]):
		return "the newest one that comes in time is due, if there is room"
	case l.Policy == api.PlAll && len(skipped) != max(0, len(all)-l.Room):
		return "under PlAll nothing is skipped for being late"
	case l.Policy == api.PlLatest && len(due) > 1:
		return "under PlLatest at most one is due"
	case l.Policy != api.PlLatest && !slices.Equal(due[:min(len(due), len(l.Due))], l.Due):
		return "those that were due stay"
	}
	return ""
}

func TestChance(t *testing.T) {
	r := rand.New(rand.NewPCG(16, 3))
	lates, wants, boths := 0, 0, 0
	for range 100000 {
		l := anyGood(r)
		if s := broken(l); s != "" {
			due, skipped, e := late.Judge(l)
			t.Fatalf("%s: Judge(%+v) = %d; %d, %d", s, l, due, skipped, e)
		}
		check(t, l)
		n := 0
		for _, at := range l.Come {
			if isLate(l, at) {
				n++
			}
		}
		wanting := len(l.Due)+len(l.Come)-n > l.Room
		if l.Policy == api.PlSkip {
			lates += min(n, 1)
			if wanting {
				wants++
				boths += min(n, 1)
			}
		}
	}
	if lates < 1000 || wants < 1000 || boths < 1000 {
		t.Errorf("of lots of PlSkip too few have late ones, want room, or both: %d, %d, %d", lates, wants, boths)
	}
}

// Lots by chance with a fault or two, wherever.
func TestChanceFaults(t *testing.T) {
	r := rand.New(rand.NewPCG(16, 1))
	for range 30000 {
		l := anyGood(r)
		for range 1 + r.IntN(2) {
			n := len(l.Due) + len(l.Come)
			if n == 0 || r.IntN(3) == 0 {
				f := fieldFaults()
				f[r.IntN(len(f))].do(&l)
				continue
			}
			i := r.IntN(n)
			switch at := place(&l, i); r.IntN(4) {
			case 0:
				*at = moments[r.IntN(len(moments))]
			case 1:
				*at += r.Int64N(7) - 3
			case 2:
				*at = *place(&l, r.IntN(n))
			case 3:
				other := place(&l, r.IntN(n))
				*at, *other = *other, *at
			}
		}
		check(t, l)
	}
}

// wild is a lot whose fields are anything.
func wild(r *rand.Rand) api.Lot {
	number := func() int64 {
		if r.IntN(2) == 0 {
			return moments[r.IntN(len(moments))]
		}
		return int64(r.Uint64() >> r.IntN(64))
	}
	row := func() (l []int64) {
		for range r.IntN(80) * r.IntN(2) {
			l = append(l, number())
		}
		if r.IntN(2) == 0 {
			slices.Sort(l)
			l = slices.Compact(l)
		}
		return l
	}
	return api.Lot{
		Policy: r.IntN(6) - 1, Grace: number(), Now: number(), Due: row(), Come: row(),
		Room: []int{math.MinInt, -1, 0, 1, 63, 64, 65, math.MaxInt, r.IntN(70)}[r.IntN(9)],
	}
}

// Whatever comes in, no call panics or goes on for ever.
func TestWild(t *testing.T) {
	r := rand.New(rand.NewPCG(16, 2))
	for range 100000 {
		check(t, wild(r))
	}
}

// Of very many moments a lot is refused at once.
func TestVeryMany(t *testing.T) {
	far := row(1<<22, 0, 1)
	start := time.Now()
	for range 1000 {
		for _, l := range []api.Lot{{Due: far, Room: 64}, {Come: far, Room: 64}, {Due: far, Come: far, Room: 1 << 24}, {Due: far, Room: math.MaxInt}} {
			l.Policy, l.Now = api.PlAll, maxTime-1
			if late.May(l) {
				t.Fatal("so many moments may not be")
			}
			if due, skipped, e := late.Judge(l); e != api.ErrArg || due != nil || skipped != nil {
				t.Fatal("so many moments are refused")
			}
		}
	}
	if d := time.Since(start); d > 5*time.Second {
		t.Errorf("8000 calls of 2^22 moments took %v", d)
	}
}

// lotOf is a lot that is read off bytes.
func lotOf(b []byte) (l api.Lot) {
	next := func() byte {
		if len(b) == 0 {
			return 0
		}
		n := b[0]
		b = b[1:]
		return n
	}
	number := func() int64 {
		switch n := next(); {
		case n < 200:
			return int64(n)
		case n < 220:
			return moments[int(n)%len(moments)]
		default:
			var word [8]byte
			for i := range word {
				word[i] = next()
			}
			return int64(binary.BigEndian.Uint64(word[:]) >> (n % 32))
		}
	}
	l.Policy, l.Grace, l.Now, l.Room = int(next()%5), number(), number(), int(number())
	was, come := int(next())%70, int(next())%70
	// Moments are mostly told by how far they are from the one ahead.
	ahead := int64(-1)
	for i := range was + come {
		if n := next(); n < 250 {
			ahead += int64(n % 50)
		} else {
			ahead = number()
		}
		if i < was {
			l.Due = append(l.Due, ahead)
		} else {
			l.Come = append(l.Come, ahead)
		}
	}
	return l
}

// FuzzLate reads lots off bytes.
func FuzzLate(f *testing.F) {
	f.Add([]byte{})
	f.Add([]byte{1, 100, 199, 9, 1, 2, 51, 30, 15})
	f.Add([]byte{3, 0, 199, 3, 3, 3, 1, 1, 1, 1, 1, 1})
	f.Add([]byte{2, 0, 199, 64, 64, 64})
	f.Add([]byte{1, 220, 255, 255, 255, 255, 255, 255, 255, 255, 208, 5, 2, 2, 250, 209, 1, 250, 3, 1})
	f.Fuzz(func(t *testing.T, b []byte) {
		l := lotOf(b)
		check(t, l)
		if allowed(l) {
			if s := broken(l); s != "" {
				t.Fatalf("%s: %+v", s, l)
			}
		}
	})
}
