package graph_test

import (
	"fmt"
	"maps"
	"math"
	"math/rand/v2"
	"slices"
	"testing"

	"ringer/api"
	"ringer/graph"
)

const last = math.MaxUint64 // the greatest Id

// mark stands in memory that a call is handed, but not told of.
const mark = 0xfeed

// node is a node of an Id.
func node(id uint64, deps ...uint64) api.Node { return api.Node{Id: id, Deps: deps} }

// row is a row of nodes.
func row(l ...api.Node) []api.Node { return l }

// pair are two Ids: one, and one to which one comes from it.
type pair struct{ from, to uint64 }

// steps are the pairs of a node and one of its Deps.
func steps(l []api.Node) map[pair]bool {
	m := map[pair]bool{}
	for _, n := range l {
		for _, dep := range n.Deps {
			m[pair{n.Id, dep}] = true
		}
	}
	return m
}

// ways are all pairs of an Id, and one to which one comes from it, in one step or more: by way of each one in turn.
func ways(l []api.Node) map[pair]bool {
	m := steps(l)
	ids := everyone(l)
	for _, by := range ids {
		for _, from := range ids {
			if !m[pair{from, by}] {
				continue
			}
			for _, to := range ids {
				if m[pair{by, to}] {
					m[pair{from, to}] = true
				}
			}
		}
	}
	return m
}

// everyone are all Ids and Deps of a row, rising.
func everyone(l []api.Node) []uint64 {
	m := map[uint64]bool{}
	for _, n := range l {
		m[n.Id] = true
		for _, dep := range n.Deps {
			m[dep] = true
		}
	}
	return slices.Sorted(maps.Keys(m))
}

// count tells how often an Id is a node's.
func count(l []api.Node, id uint64) (n int) {
	for _, o := range l {
		if o.Id == id {
			n++
		}
	}
	return n
}

// fault is what May must tell, word for word as the chapter does.
func fault(l []api.Node, reach map[pair]bool) api.Errno {
	var long, twice, none, circle bool
	long = len(l) > 64
	for _, n := range l {
		long = long || len(n.Deps) > 8
		twice = twice || count(l, n.Id) > 1
		circle = circle || reach[pair{n.Id, n.Id}]
		for i, dep := range n.Deps {
			twice = twice || slices.Contains(n.Deps[:i], dep)
			none = none || count(l, dep) == 0
		}
	}
	for _, x := range []struct {
		is bool
		e  api.Errno
	}{{long, api.ErrLong}, {twice, api.ErrTwice}, {none, api.ErrNone}, {circle, api.ErrCircle}} {
		if x.is {
			return x.e
		}
	}
	return api.OK
}

// wrongOrder tells what is wrong with the order of a row that may be, at each of its places; "", if nothing is.
func wrongOrder(l []api.Node, order []uint64) string {
	if len(order) != len(l) {
		return "not all of them"
	}
	for i, id := range order {
		if slices.Contains(order[:i], id) {
			return fmt.Sprint(id, " twice")
		}
		if count(l, id) == 0 {
			return fmt.Sprint(id, " is nobody's")
		}
		for _, n := range l {
			all := true
			for _, dep := range n.Deps {
				all = all && slices.Contains(order[:i], dep)
			}
			if n.Id == id && !all {
				return fmt.Sprint(id, " ahead of one of its Deps")
			}
			if all && n.Id < id && !slices.Contains(order[:i], n.Id) {
				return fmt.Sprint(id, " ahead of ", n.Id)
			}
		}
	}
	return ""
}

// users are the Ids of all that have id among their Deps.
func users(l []api.Node, id uint64) []uint64 {
	m := map[uint64]bool{}
	for _, n := range l {
		if slices.Contains(n.Deps, id) {
			m[n.Id] = true
		}
	}
	return slices.Sorted(maps.Keys(m))
}

// roomy is another row that is the same, with marked memory behind it, and behind each node's Deps.
func roomy(l []api.Node) []api.Node {
	all := make([]api.Node, 0, len(l)+2)
	for _, n := range l {
		if n.Deps != nil {
			n.Deps = append(append(make([]uint64, 0, len(n.Deps)+2), n.Deps...), mark, mark)[:len(n.Deps)]
		}
		all = append(all, n)
	}
	return append(all, node(mark, mark), node(mark, mark))[:len(l)]
}

// sameNodes tells whether two rows are the same, none and empty Deps apart.
func sameNodes(a, b []api.Node) bool {
	return slices.EqualFunc(a, b, func(x, y api.Node) bool {
		return x.Id == y.Id && slices.Equal(x.Deps, y.Deps) && (x.Deps == nil) == (y.Deps == nil)
	})
}

// untouched fails unless a row that roomy made of l is as it was.
func untouched(t *testing.T, what string, r, l []api.Node) {
	t.Helper()
	if !sameNodes(r, l) {
		t.Fatalf("%s: changed to %v; it was %v", what, r, l)
	}
	for _, n := range r {
		if n.Deps == nil {
			continue
		}
		if behind := n.Deps[len(n.Deps):cap(n.Deps)]; behind[0] != mark || behind[1] != mark {
			t.Fatalf("%s: behind the Deps of %d: %d", what, n.Id, behind)
		}
	}
	if behind := r[len(r):cap(r)]; !sameNodes(behind[:2], row(node(mark, mark), node(mark, mark))) {
		t.Fatalf("%s: behind the row: %v", what, behind)
	}
}

// spoil changes all of a list that was told, and what could stand behind it.
func spoil(l []uint64) {
	l = l[:cap(l)]
	for i := range l {
		l[i] = mark
	}
}

// told asks everything of a row, and fails unless the answers are those of the chapter's words.
func told(t *testing.T, what string, l []api.Node, ids ...uint64) {
	t.Helper()
	r := roomy(l)
	reach := ways(l)
	e := fault(l, reach)
	if got := graph.May(r); got != e {
		t.Fatalf("%s: May(%v): %d; want %d", what, l, got, e)
	}
	order, got := graph.Order(r)
	if got != e {
		t.Fatalf("%s: Order(%v): %d; want %d", what, l, got, e)
	}
	if e != api.OK && order != nil {
		t.Fatalf("%s: Order(%v): %d beside the error %d", what, l, order, e)
	}
	if e == api.OK {
		if wrong := wrongOrder(l, order); wrong != "" {
			t.Fatalf("%s: Order(%v): %d: %s", what, l, order, wrong)
		}
	}
	ids = append(ids, everyone(l)...)
	for _, id := range ids {
		if got, want := graph.Users(r, id), users(l, id); len(l) <= 64 && !slices.Equal(got, want) {
			t.Fatalf("%s: Users(%v, %d): %d; want %d", what, l, id, got, want)
		} else if len(l) > 64 && got != nil {
			t.Fatalf("%s: Users(.., %d) of %d nodes: %d", what, id, len(l), got)
		}
		for _, to := range ids {
			want := len(l) <= 64 && reach[pair{id, to}]
			if got := graph.Reach(r, id, to); got != want {
				t.Fatalf("%s: Reach(%v, %d, %d): %v; want %v", what, l, id, to, got, want)
			}
		}
	}
	untouched(t, what, r, l)
}

// may fails unless May, and Order, tell this of a row.
func may(t *testing.T, what string, l []api.Node, want api.Errno) {
	t.Helper()
	if e := graph.May(l); e != want {
		t.Fatalf("%s: May(%v): %d; want %d", what, l, e, want)
	}
	order, e := graph.Order(l)
	if e != want || want != api.OK && order != nil {
		t.Fatalf("%s: Order(%v): %d, %d; want %d", what, l, order, e, want)
	}
}

// ordered fails unless this is the order of a row.
func ordered(t *testing.T, what string, l []api.Node, want ...uint64) {
	t.Helper()
	order, e := graph.Order(l)
	if e != api.OK || !slices.Equal(order, want) {
		t.Fatalf("%s: Order(%v): %d, %d; want %d", what, l, order, e, want)
	}
}

// permutations are all orders of the numbers below n.
func permutations(n int) (all [][]int) {
	if n == 0 {
		return [][]int{nil}
	}
	for _, p := range permutations(n - 1) {
		for at := range n {
			all = append(all, slices.Insert(slices.Clone(p), at, n-1))
		}
	}
	return all
}

// inOrder is a row, or a list, in another order.
func inOrder[T any](l []T, places []int) (all []T) {
	for _, i := range places {
		all = append(all, l[i])
	}
	return all
}

// turned are a row's nodes in each order, each of these with each node's Deps as they were, turned round, and turned on.
func turned(l []api.Node) (all [][]api.Node) {
	for _, p := range permutations(len(l)) {
		for how := range 3 {
			other := slices.Clone(inOrder(l, p))
			for i := range other {
				deps := slices.Clone(other[i].Deps)
				switch {
				case how == 1:
					slices.Reverse(deps)
				case how == 2 && len(deps) > 0:
					deps = append(deps[1:], deps[0])
				}
				other[i].Deps = deps
			}
			all = append(all, other)
		}
	}
	return all
}

// chain is a row of n nodes from an Id on, each of which waits for the one below it.
func chain(from uint64, n int) (l []api.Node) {
	for i := range n {
		l = append(l, node(from+uint64(i)))
		if i > 0 {
			l[i].Deps = []uint64{from + uint64(i) - 1}
		}
	}
	return l
}

// circle is a chain whose first one waits for the last one.
func circle(from uint64, n int) []api.Node {
	l := chain(from, n)
	l[0].Deps = []uint64{from + uint64(n) - 1}
	return l
}

// free are n nodes that wait for nobody, from an Id on.
func free(from uint64, n int) (l []api.Node) {
	for i := range n {
		l = append(l, node(from+uint64(i)))
	}
	return l
}

// thick is a row of n nodes from 1 on, each of which waits for as many below it as it may.
func thick(n int) (l []api.Node) {
	for i := range n {
		l = append(l, node(uint64(i+1)))
		for j := max(0, i-8); j < i; j++ {
			l[i].Deps = append(l[i].Deps, uint64(j+1))
		}
	}
	return l
}

// span are the numbers from one to another.
func span(from, to uint64) (l []uint64) {
	for n := from; n <= to; n++ {
		l = append(l, n)
	}
	return l
}

func TestExamples(t *testing.T) {
	l := row(node(3, 1), node(1), node(2, 3))
	ordered(t, "the first row", l, 1, 3, 2)
	may(t, "two", row(node(1, 2), node(2, 1)), api.ErrCircle)
	may(t, "nobody's", row(node(1, 5)), api.ErrNone)
	may(t, "itself", row(node(1, 1)), api.ErrCircle)
	if got := graph.Users(l, 3); !slices.Equal(got, []uint64{2}) {
		t.Fatalf("Users: %d", got)
	}
	if !graph.Reach(l, 2, 1) {
		t.Fatal("Reach: false")
	}
}

// P13.1, P13.2: a row of no node may be, and nobody stands in it.
func TestNoNodes(t *testing.T) {
	for _, l := range [][]api.Node{nil, {}, make([]api.Node, 0, 9), chain(1, 3)[:0]} {
		may(t, "no nodes", l, api.OK)
		ordered(t, "no nodes", l)
		for _, id := range []uint64{0, 1, 2, last} {
			if got := graph.Users(l, id); len(got) != 0 {
				t.Fatalf("Users: %d", got)
			}
			if graph.Reach(l, id, id) || graph.Reach(l, id, 1) || graph.Reach(l, 1, id) {
				t.Fatalf("Reach of %d: true", id)
			}
		}
	}
}

// P13.1: 64 nodes may be, one more may not, whatever they wait for.
func TestMayNodes(t *testing.T) {
	for n := range 70 {
		want := api.OK
		if n > 64 {
			want = api.ErrLong
		}
		may(t, "free", free(1, n), want)
		may(t, "a chain", chain(1, n), want)
		may(t, "thick", thick(n), want)
		told(t, "free", free(last-80, n), 0, last)
		told(t, "a chain", chain(0, n), last)
	}
	for _, n := range []int{65, 66, 128, 1000} {
		may(t, "one Id", slices.Repeat(row(node(1, 1)), n), api.ErrLong)
		may(t, "nobody's", slices.Repeat(row(node(1, 2)), n), api.ErrLong)
		may(t, "a circle", circle(1, n), api.ErrLong)
	}
}

// P13.1: a node has eight Deps at most.
func TestMayDeps(t *testing.T) {
	for n := range 20 {
		want := api.OK
		if n > 8 {
			want = api.ErrLong
		}
		for at := range 21 {
			l := slices.Insert(free(1, 20), at, node(99, span(1, uint64(n))...))
			may(t, fmt.Sprint(n, " Deps"), l, want)
			told(t, fmt.Sprint(n, " Deps"), l)
			other := append(l, node(100, 99))
			may(t, fmt.Sprint(n, " Deps, and another one"), other, want)
		}
		// Of one Dep, and of Deps that are nobody's, there may be too many as well.
		if n > 8 {
			may(t, "one again and again", row(node(1), node(2, slices.Repeat([]uint64{1}, n)...)), api.ErrLong)
			may(t, "nobody's", row(node(1, span(2, uint64(n)+1)...)), api.ErrLong)
			may(t, "itself", row(node(1, slices.Repeat([]uint64{1}, n)...)), api.ErrLong)
		}
	}
	l := thick(64)
	may(t, "thick", l, api.OK)
	for i := range l {
		if len(l[i].Deps) < 8 {
			continue
		}
		other := slices.Clone(l)
		other[i].Deps = append(slices.Clone(l[i].Deps), l[i].Id%64+1)
		may(t, fmt.Sprint("one more of ", l[i].Id), other, api.ErrLong)
	}
}

// Deps nil, and none, are one.
func TestNoDeps(t *testing.T) {
	for _, deps := range [][]uint64{nil, {}, make([]uint64, 0, 4)} {
		l := []api.Node{{Id: 7, Deps: deps}, {Id: 3, Deps: []uint64{7}}, {Id: 5, Deps: deps}}
		told(t, "no Deps", l, 9)
		ordered(t, "no Deps", l, 5, 7, 3)
		told(t, "alone", []api.Node{{Id: 7, Deps: deps}}, 0)
		ordered(t, "alone", []api.Node{{Id: 7, Deps: deps}}, 7)
	}
}

// Ids are any numbers: 0 and the greatest one, too.
func TestIds(t *testing.T) {
	ids := []uint64{0, 1, 1<<32 - 1, 1 << 32, 1<<63 - 1, 1 << 63, last - 1, last}
	for _, a := range ids {
		told(t, "alone", row(node(a)), ids...)
		told(t, "itself", row(node(a, a)), ids...)
		may(t, "itself", row(node(a, a)), api.ErrCircle)
		for _, b := range ids {
			told(t, "nobody's", row(node(a, b)), ids...)
			if a == b {
				continue
			}
			may(t, "nobody's", row(node(a, b)), api.ErrNone)
			ordered(t, "free", row(node(a), node(b)), min(a, b), max(a, b))
			ordered(t, "one waits", row(node(a, b), node(b)), b, a)
			may(t, "both wait", row(node(a, b), node(b, a)), api.ErrCircle)
			may(t, "twice", row(node(a), node(b), node(a)), api.ErrTwice)
			may(t, "a Dep twice", row(node(a, b, b), node(b)), api.ErrTwice)
			for _, c := range ids {
				told(t, "three", row(node(a, b), node(b, c), node(c)), ids...)
			}
		}
	}
	told(t, "all", row(node(0, last, 1), node(1, last), node(last)), 2)
	ordered(t, "all", row(node(0, last, 1), node(1, last), node(last)), last, 1, 0)
	ordered(t, "all free", row(node(last), node(1), node(0), node(1<<63)), 0, 1, 1<<63, last)
}

// P13.1: no Id is two nodes', wherever these stand.
func TestMayTwice(t *testing.T) {
	for _, n := range []int{1, 2, 3, 10, 63} {
		l := chain(1, n)
		for i := range n {
			for at := range n + 1 {
				for _, twin := range []api.Node{l[i], node(l[i].Id), node(l[i].Id, l[n-1].Id), node(l[i].Id, 999)} {
					may(t, fmt.Sprint(l[i].Id, " again at ", at), slices.Insert(slices.Clone(l), at, twin), api.ErrTwice)
				}
			}
		}
	}
	told(t, "thrice", row(node(1), node(2, 1), node(1, 2), node(3), node(1, 3)), 4)
	may(t, "all one", slices.Repeat(row(node(5)), 64), api.ErrTwice)
}

// P13.1: no Dep is told twice by one node, wherever; but by two.
func TestMayDepTwice(t *testing.T) {
	l := free(1, 8)
	for n := 1; n < 8; n++ {
		deps := span(1, uint64(n))
		may(t, "each once", append(l, node(9, deps...)), api.OK)
		for i := range n {
			for at := range n + 1 {
				twice := slices.Insert(slices.Clone(deps), at, deps[i])
				for place := range 9 {
					may(t, fmt.Sprint(deps[i], " again at ", at), slices.Insert(slices.Clone(l), place, node(9, twice...)), api.ErrTwice)
				}
				told(t, "twice", append(slices.Clone(l), node(9, twice...), node(10, 9, 1)))
			}
		}
	}
	two := row(node(1), node(2, 1), node(3, 1), node(4, 1, 2), node(5, 2, 1))
	told(t, "by two nodes", two)
	ordered(t, "by two nodes", two, 1, 2, 3, 4, 5)
	may(t, "itself twice", row(node(1, 1, 1)), api.ErrTwice)
	may(t, "nobody's twice", row(node(1, 2, 2)), api.ErrTwice)
}

// P13.1: each Dep is a node's.
func TestMayNone(t *testing.T) {
	for _, n := range []int{1, 2, 8, 30, 64} {
		l := chain(2, n)
		for i := range n {
			for _, nobody := range []uint64{0, 1, uint64(n) + 2, 1 << 40, last} {
				other := roomy(l)
				other[i].Deps = append(slices.Clone(other[i].Deps), nobody)
				may(t, fmt.Sprint(l[i].Id, " waits for ", nobody), other, api.ErrNone)
				slices.Reverse(other[i].Deps)
				may(t, fmt.Sprint(l[i].Id, " waits for ", nobody), other, api.ErrNone)
			}
		}
	}
	for at := range 8 {
		deps := slices.Insert(span(1, 7), at, 77)
		may(t, "one of eight", append(free(1, 8), node(9, deps...)), api.ErrNone)
		may(t, "one of eight", append(row(node(9, deps...)), free(1, 8)...), api.ErrNone)
	}
}

// circles are rows with circles, and no other fault.
func circles() map[string][]api.Node {
	apart := append(circle(1, 3), circle(10, 2)...)
	l := map[string][]api.Node{
		"of one":                   row(node(1, 1)),
		"of one, among others":     row(node(1), node(2, 1), node(3, 1, 3), node(4, 2)),
		"of two":                   circle(1, 2),
		"of three":                 circle(1, 3),
		"of many":                  circle(5, 40),
		"of 63, and one free":      append(circle(1, 63), node(99)),
		"of all 64":                circle(1, 64),
		"reached":                  append(circle(5, 3), node(8, 6), node(9, 8)),
		"reached from below":       append(circle(5, 3), node(1, 6), node(2, 1)),
		"reached by a chain":       append(circle(1, 2), chain(10, 62)...),
		"that waits for others":    row(node(1), node(2, 1), node(3, 2, 4), node(4, 3, 1)),
		"two":                      apart,
		"two, one reaches another": append(circle(1, 3), node(10, 11, 2), node(11, 10)),
		"two that share one":       row(node(1, 2, 3), node(2, 1), node(3, 1)),
		"two, of one each":         row(node(1, 1), node(2), node(3, 3)),
		"of 32 pairs":              nil,
		"at the end of a thick":    nil,
	}
	l["reached by a chain"][2].Deps = []uint64{2}
	for i := range uint64(32) {
		l["of 32 pairs"] = append(l["of 32 pairs"], node(2*i, 2*i+1), node(2*i+1, 2*i))
	}
	all := thick(64)
	all[0].Deps = []uint64{64}
	l["at the end of a thick"] = all
	return l
}

// P13.1: nobody waits for themselves, by whatever way.
func TestMayCircle(t *testing.T) {
	r := rand.New(rand.NewPCG(13, 1))
	for what, l := range circles() {
		what = "a circle " + what
		told(t, what, l, 0, 1000)
		for range 20 {
			r.Shuffle(len(l), func(i, j int) { l[i], l[j] = l[j], l[i] })
			may(t, what, l, api.ErrCircle)
		}
		told(t, what, l)
	}
	for n := 1; n <= 64; n++ {
		l := circle(1, n)
		may(t, fmt.Sprint("a circle of ", n), l, api.ErrCircle)
		slices.Reverse(l)
		may(t, fmt.Sprint("a circle of ", n), l, api.ErrCircle)
		// It is one just as long as each one waits for the next one.
		for i := range l {
			open := slices.Clone(l)
			open[i].Deps = nil
			may(t, fmt.Sprint("a circle of ", n, " without a step"), open, api.OK)
		}
	}
}

// P13.1: of several faults the first one of ErrLong, ErrTwice, ErrNone, ErrCircle is told, whichever stands first in the row.
func TestMayFirst(t *testing.T) {
	long := []api.Node{node(20, 21, 22, 23, 24, 21, 22, 23, 24, 99), node(20, span(30, 38)...), node(20, slices.Repeat([]uint64{20}, 9)...)}
	twice := []api.Node{node(1, 2, 2), node(2), node(1, 77, 77), node(1, 1, 1)}
	none := []api.Node{node(3, 77), node(3, 77, 3), node(3, 2, 77)}
	around := []api.Node{node(4, 4), node(4, 5), node(4, 2, 5)}
	for what, x := range map[string]struct {
		kinds [][]api.Node
		want  api.Errno
	}{
		"all":               {[][]api.Node{long, twice, none, around}, api.ErrLong},
		"long, none":        {[][]api.Node{long, none}, api.ErrLong},
		"long, circle":      {[][]api.Node{long, around}, api.ErrLong},
		"long, twice":       {[][]api.Node{long, twice}, api.ErrLong},
		"twice, none":       {[][]api.Node{twice[2:3], none}, api.ErrTwice},
		"twice, circle":     {[][]api.Node{twice[:1], around}, api.ErrTwice},
		"twice, none, ring": {[][]api.Node{{twice[0], twice[2], twice[3]}, none, around}, api.ErrTwice},
		"none, circle":      {[][]api.Node{none, around}, api.ErrNone},
	} {
		rows := [][]api.Node{{node(2), node(5, 4)}}
		for _, kind := range x.kinds {
			var more [][]api.Node
			for _, l := range rows {
				for _, n := range kind {
					more = append(more, append(slices.Clone(l), n))
				}
			}
			rows = more
		}
		for _, l := range rows {
			for _, other := range turned(l) {
				may(t, what, other, x.want)
			}
			told(t, what, l, 0, 77)
		}
	}
}

// P13.1: one node has several faults at once, its Deps told in each order.
func TestMayFirstOfNode(t *testing.T) {
	for what, x := range map[string]struct {
		deps []uint64
		want api.Errno
	}{
		"twice, nobody's, itself": {[]uint64{2, 2, 77, 1}, api.ErrTwice},
		"twice, nobody's":         {[]uint64{2, 77, 2, 3}, api.ErrTwice},
		"nobody's twice":          {[]uint64{77, 77, 2}, api.ErrTwice},
		"twice, itself":           {[]uint64{3, 1, 3}, api.ErrTwice},
		"itself twice":            {[]uint64{1, 2, 1}, api.ErrTwice},
		"nobody's, itself":        {[]uint64{77, 1, 2, 3}, api.ErrNone},
		"nobody's, and round":     {[]uint64{4, 77, 3}, api.ErrNone},
		"itself":                  {[]uint64{2, 1, 3}, api.ErrCircle},
		"round":                   {[]uint64{2, 4, 3}, api.ErrCircle},
		"none":                    {[]uint64{3, 2}, api.OK},
	} {
		for _, p := range permutations(len(x.deps)) {
			n := node(1, inOrder(x.deps, p)...)
			for at := range 4 {
				l := slices.Insert(row(node(2), node(3, 2), node(4, 1)), at, n)
				may(t, what, l, x.want)
				told(t, what, l)
			}
		}
	}
	// Each fault is that of another node: the row's last node has the one that is told.
	may(t, "long at last", append(row(node(1, 1), node(2, 77), node(3, 1, 1), node(3)), node(4, span(1, 9)...)), api.ErrLong)
	may(t, "an Id twice at last", row(node(1, 1), node(2, 77), node(3), node(3)), api.ErrTwice)
	may(t, "a Dep twice at last", row(node(1, 1), node(2, 77), node(3, 1, 1)), api.ErrTwice)
	may(t, "nobody's at last", row(node(1, 1), node(2, 3), node(3, 2), node(4, 77)), api.ErrNone)
	may(t, "a circle at last", row(node(1), node(2, 1), node(3, 3)), api.ErrCircle)
}

// P13.2: the order hangs neither on that of nodes, nor on that of Deps.
func TestOrderTurned(t *testing.T) {
	for what, x := range map[string]struct {
		l    []api.Node
		want []uint64
	}{
		"free":               {row(node(4), node(0), node(9), node(2), node(last)), []uint64{0, 2, 4, 9, last}},
		"a chain up":         {chain(1, 5), []uint64{1, 2, 3, 4, 5}},
		"a chain down":       {row(node(1, 2), node(2, 3), node(3, 4), node(4, 5), node(5)), []uint64{5, 4, 3, 2, 1}},
		"two ways":           {row(node(1, 2, 3), node(2, 4), node(3, 4), node(4)), []uint64{4, 2, 3, 1}},
		"two ways, crossed":  {row(node(4, 2, 3), node(2, 1), node(3, 1, 2), node(1)), []uint64{1, 2, 3, 4}},
		"one comes free":     {row(node(1, 5), node(2), node(3, 1), node(5), node(9)), []uint64{2, 5, 1, 3, 9}},
		"a late one is less": {row(node(6), node(1, 6), node(7), node(2, 7), node(8)), []uint64{6, 1, 7, 2, 8}},
		"not by depth":       {row(node(1), node(2, 9), node(3, 1), node(4, 3), node(9)), []uint64{1, 3, 4, 9, 2}},
		"one for all":        {row(node(0, 1, 2, 3, 4), node(1), node(2), node(3), node(4)), []uint64{1, 2, 3, 4, 0}},
		"all for one":        {row(node(0, 4), node(1, 4), node(2, 4), node(3, 4), node(4)), []uint64{4, 0, 1, 2, 3}},
		"greatest ones":      {row(node(last), node(0, last), node(last-1, 0), node(1<<63)), []uint64{1 << 63, last, 0, last - 1}},
	} {
		for _, l := range turned(x.l) {
			ordered(t, what, l, x.want...)
			told(t, what, l)
		}
	}
}

// P13.2: rows of 64, in many orders.
func TestOrderGreat(t *testing.T) {
	down := chain(1, 64)
	for i := range down {
		down[i].Deps = nil
		if i < 63 {
			down[i].Deps = []uint64{uint64(i) + 2}
		}
	}
	back := span(1, 64)
	slices.Reverse(back)
	odd := free(1, 64) // each odd one waits for the even one behind it
	var pairs []uint64
	for i := 0; i < 64; i += 2 {
		odd[i].Deps = []uint64{uint64(i) + 2}
		pairs = append(pairs, uint64(i)+2, uint64(i)+1)
	}
	far := chain(last-63, 64)
	r := rand.New(rand.NewPCG(13, 2))
	for what, x := range map[string]struct {
		l    []api.Node
		want []uint64
	}{
		"a chain up":   {chain(1, 64), span(1, 64)},
		"a chain down": {down, back},
		"free":         {free(1, 64), span(1, 64)},
		"thick":        {thick(64), span(1, 64)},
		"pairs":        {odd, pairs},
		"far":          {far, append(span(last-63, last-1), last)},
	} {
		ordered(t, what, x.l, x.want...)
		told(t, what, x.l, 0, 1000)
		for range 30 {
			r.Shuffle(len(x.l), func(i, j int) { x.l[i], x.l[j] = x.l[j], x.l[i] })
			for _, n := range x.l {
				r.Shuffle(len(n.Deps), func(i, j int) { n.Deps[i], n.Deps[j] = n.Deps[j], n.Deps[i] })
			}
			ordered(t, what, x.l, x.want...)
		}
		told(t, what, x.l)
	}
}

// Of all orders in which each one stands behind its Deps, the order is the first one.
func TestOrderLeast(t *testing.T) {
	all := permutations(4)
	slices.SortFunc(all, slices.Compare)
	ids := []uint64{2, 5, 6, last}
	for bits := range 1 << 16 {
		l := make([]api.Node, 4)
		for i := range 16 {
			l[i/4].Id = ids[i/4]
			if bits>>i&1 > 0 {
				l[i/4].Deps = append(l[i/4].Deps, ids[i%4])
			}
		}
		var want []uint64
		e := api.ErrCircle
		for _, p := range all {
			fits := true
			for i, n := range p {
				for _, dep := range l[n].Deps {
					fits = fits && slices.Contains(p[:i], slices.Index(ids, dep))
				}
			}
			if fits {
				want, e = inOrder(ids, p), api.OK
				break
			}
		}
		slices.Reverse(l)
		if got, f := graph.Order(l); f != e || !slices.Equal(got, want) {
			t.Fatalf("Order(%v): %d, %d; want %d, %d", l, got, f, want, e)
		}
		// P13.3: there is an order just if nobody reaches themselves.
		round := false
		for _, id := range ids {
			round = round || graph.Reach(l, id, id)
		}
		if round != (e == api.ErrCircle) {
			t.Fatalf("%v: %d, but one reaches themselves: %v", l, e, round)
		}
	}
}

// lists are all lists of at most so many of some Ids.
func lists(ids []uint64, most int) [][]uint64 {
	all := [][]uint64{nil}
	if most == 0 {
		return all
	}
	for _, l := range lists(ids, most-1) {
		for _, id := range ids {
			all = append(all, append(slices.Clone(l), id))
		}
	}
	return all
}

// All rows of two nodes of a few Ids, and of three with fewer Deps, also those that may not be.
func TestAllSmall(t *testing.T) {
	ids := []uint64{0, 1, last}
	for _, x := range []struct{ nodes, deps int }{{1, 4}, {2, 3}, {3, 1}} {
		var nodes []api.Node
		for _, id := range ids {
			for _, deps := range lists([]uint64{0, 1, last, 2}, x.deps) {
				nodes = append(nodes, node(id, deps...))
			}
		}
		rows := [][]api.Node{nil}
		for range x.nodes {
			var more [][]api.Node
			for _, l := range rows {
				for _, n := range nodes {
					more = append(more, append(slices.Clone(l), n))
				}
			}
			rows = more
		}
		for _, l := range rows {
			told(t, "small", l, 0, 1, 2, last)
		}
	}
}

// P13.2: Users are those who tell id as a Dep themselves, rising, each once.
func TestUsers(t *testing.T) {
	l := row(node(9, 1, 5), node(last, 1), node(0, 5, 1), node(1), node(5, 1), node(7, 9))
	for _, x := range []struct {
		id   uint64
		want []uint64
	}{{1, []uint64{0, 5, 9, last}}, {5, []uint64{0, 9}}, {9, []uint64{7}}, {7, nil}, {0, nil}, {last, nil}, {2, nil}} {
		for _, other := range turned(l) {
			if got := graph.Users(other, x.id); !slices.Equal(got, x.want) {
				t.Fatalf("Users(%v, %d): %d; want %d", other, x.id, got, x.want)
			}
		}
	}
	all := free(0, 64)
	for i := range all {
		all[i].Deps = []uint64{last}
	}
	slices.Reverse(all)
	if got := graph.Users(all, last); !slices.Equal(got, span(0, 63)) {
		t.Fatalf("Users of all 64: %d", got)
	}
}

// odd are rows that may not be.
func odd() map[string][]api.Node {
	many := span(100, 3000)
	return map[string][]api.Node{
		"several of one Id":          row(node(1, 2), node(2), node(1, 3), node(3), node(1), node(3, 4)),
		"the last one of them leads": row(node(1), node(1), node(1, 2), node(2), node(2, 3)),
		"the first one of them does": row(node(1, 2), node(1), node(1), node(2, 3), node(2)),
		"twins that wait for it":     row(node(7, 1), node(7, 1), node(5, 1), node(7, 2), node(5, 1)),
		"twins of each other":        row(node(1, 1), node(1), node(1, 1, 1)),
		"Deps twice":                 row(node(1, 2, 2, 2), node(2, 3, 3), node(3)),
		"nine Deps":                  row(node(1, span(2, 10)...), node(10, 11), node(11)),
		"many Deps":                  row(node(1, many...), node(3000, 2), node(2, 1, 7)),
		"many Deps, twice":           row(node(1, append(many, many...)...), node(2, 1)),
		"nobody's":                   row(node(1, 5), node(2, 1, 6), node(3, 2, 5)),
		"nobody's alone":             row(node(1, 2)),
		"circles, and nobody's":      row(node(1, 2), node(2, 1, 5), node(3, 3, 6)),
		"all at once":                row(node(1, 1, 1, 2, 9), node(1, 2), node(2, append(many, 1)...), node(2, 3), node(4, 2)),
		"64 of one Id":               append(slices.Repeat(row(node(1, 2)), 63), node(1, 3)),
		"64, each Id twice":          append(circle(1, 32), chain(1, 32)...),
	}
}

// P13.2: Users and Reach tell of rows that may not be, too.
func TestOdd(t *testing.T) {
	for what, l := range odd() {
		// Rows of thousands of Deps are asked of a few Ids alone.
		if len(everyone(l)) < 100 {
			told(t, what, l, 0, 77, last)
			slices.Reverse(l)
			told(t, what, l)
			continue
		}
		m := near(l, []uint64{1, 2, 3, 4, 9, 100, 101, 3000, 7, 77})
		for p, want := range m {
			if got := graph.Reach(l, p.from, p.to); got != want {
				t.Fatalf("%s: Reach(.., %d, %d): %v; want %v", what, p.from, p.to, got, want)
			}
			if got, want := graph.Users(l, p.to), users(l, p.to); !slices.Equal(got, want) {
				t.Fatalf("%s: Users(.., %d): %d; want %d", what, p.to, got, want)
			}
		}
	}
}

// near are all pairs of some Ids, and whether one comes from the one to the other: told by going on till nobody is new.
func near(l []api.Node, ids []uint64) map[pair]bool {
	m := map[pair]bool{}
	for _, from := range ids {
		been := map[uint64]bool{from: true}
		var got []uint64
		for was := -1; was < len(got); {
			was = len(got)
			got = nil
			for _, n := range l {
				if been[n.Id] {
					got = append(got, n.Deps...)
				}
			}
			for _, id := range got {
				been[id] = true
			}
		}
		for _, to := range ids {
			m[pair{from, to}] = slices.Contains(got, to)
		}
	}
	return m
}

// P13.2: Reach is of one step or more: from a node to itself there is a circle, or none.
func TestReach(t *testing.T) {
	l := row(node(1), node(2, 1), node(3, 2), node(4, 4), node(5, 6, 3), node(6, 5), node(7, 5), node(8, 99))
	for _, x := range []struct {
		from, to uint64
		want     bool
	}{
		{1, 1, false}, {2, 1, true}, {1, 2, false}, {2, 2, false}, {3, 1, true}, {3, 2, true}, {1, 3, false}, {3, 3, false},
		{4, 4, true}, {4, 1, false}, {5, 5, true}, {6, 6, true}, {5, 6, true}, {6, 5, true}, {6, 3, true}, {6, 1, true}, {3, 5, false},
		{7, 7, false}, {7, 6, true}, {7, 1, true}, {5, 7, false}, {7, 4, false}, {4, 7, false},
		{8, 99, true}, {99, 99, false}, {99, 8, false}, {99, 1, false}, {7, 99, false}, {8, 8, false}, {8, 1, false},
		{0, 0, false}, {0, 1, false}, {1, 0, false}, {last, 1, false}, {1, last, false},
	} {
		for _, other := range [][]api.Node{l, slices.Concat(l[4:], l[:4])} {
			if got := graph.Reach(other, x.from, x.to); got != x.want {
				t.Fatalf("Reach(%v, %d, %d): %v", other, x.from, x.to, got)
			}
		}
	}
}

// P13.2: chains and circles of 64 are gone through whole.
func TestReachGreat(t *testing.T) {
	up, round := chain(0, 64), circle(0, 64)
	slices.Reverse(round)
	for from := range uint64(65) {
		for to := range uint64(65) {
			if got, want := graph.Reach(up, from, to), from < 64 && to < from; got != want {
				t.Fatalf("a chain: Reach(%d, %d): %v", from, to, got)
			}
			if got, want := graph.Reach(round, from, to), from < 64 && to < 64; got != want {
				t.Fatalf("a circle: Reach(%d, %d): %v", from, to, got)
			}
		}
	}
	// The last one of 64 twins leads on.
	l := slices.Repeat(row(node(1)), 63)
	l = append(l, node(1, 5))
	if !graph.Reach(l, 1, 5) || graph.Reach(l, 5, 1) || graph.Reach(l, 1, 1) {
		t.Fatal("twins: Reach")
	}
}

// P13.2: of more than 64 nodes there is nobody, and no way.
func TestTooMany(t *testing.T) {
	for what, l := range map[string][]api.Node{
		"a chain of 64": chain(1, 64), "a chain": chain(1, 65), "a circle": circle(1, 65), "one Id": slices.Repeat(row(node(2, 1, 2)), 65),
		"thick": thick(65), "many": circle(1, 300), "one behind": append(chain(1, 64), node(2, 1)),
	} {
		few := len(l) <= 64
		for id := range uint64(66) {
			if got := graph.Users(l, id); !few && got != nil {
				t.Fatalf("%s: Users(%d): %d", what, id, got)
			}
			for to := range uint64(66) {
				if graph.Reach(l, id, to) && !few {
					t.Fatalf("%s: Reach(%d, %d)", what, id, to)
				}
			}
		}
		if graph.Reach(l, 2, 1) != few || (graph.Users(l, 1) != nil) != few {
			t.Fatalf("%s: Reach, or Users", what)
		}
	}
}

// What was told may be changed, and what was handed in: nothing is kept of either.
func TestMemory(t *testing.T) {
	l := row(node(3, 1), node(1), node(2, 3, 1), node(9, 2))
	r := roomy(l)
	for range 3 {
		order, e := graph.Order(r)
		other, _ := graph.Order(r)
		some, more := graph.Users(r, 1), graph.Users(r, 1)
		spoil(order)
		spoil(some)
		if e != api.OK || !slices.Equal(other, []uint64{1, 3, 2, 9}) || !slices.Equal(more, []uint64{2, 3}) {
			t.Fatalf("two answers share memory: %d, %d, %d", e, other, more)
		}
		untouched(t, "what was told is changed", r, l)
		told(t, "what was told is changed", r)
	}
	// Deps that nodes share, and a row that is a piece of itself.
	deps := []uint64{2, 1}
	shared := row(node(1), node(2), node(3, deps...), api.Node{Id: 4, Deps: deps}, api.Node{Id: 5, Deps: deps[:1]}, api.Node{Id: 6, Deps: deps[1:]})
	told(t, "shared", shared)
	if !slices.Equal(deps, []uint64{2, 1}) {
		t.Fatalf("Deps: %d", deps)
	}
	order, _ := graph.Order(shared)
	got := graph.Users(shared, 2)
	deps[0], shared[0].Id = 77, 78
	if !slices.Equal(order, span(1, 6)) || !slices.Equal(got, []uint64{3, 4, 5}) {
		t.Fatalf("what was told changes with the row: %d, %d", order, got)
	}
	// As it stands now, it is another row.
	told(t, "changed", shared)
	deps[0], shared[0].Id = 2, 1
	told(t, "changed back", shared)
}

// byChance is a row of so many nodes, of a few Ids or many.
func byChance(r *rand.Rand, n, deps int, ids uint64) (l []api.Node) {
	for range n {
		x := node(r.Uint64N(ids))
		for range r.IntN(deps + 1) {
			x.Deps = append(x.Deps, r.Uint64N(ids))
		}
		l = append(l, x)
	}
	return l
}

// goodByChance is a row of n nodes that may be: each one waits for some of those ahead of it in a list of Ids.
func goodByChance(r *rand.Rand, n int) (l []api.Node) {
	var ids []uint64
	for len(ids) < n {
		id := r.Uint64() >> (r.IntN(2) * (48 + r.IntN(8)))
		if !slices.Contains(ids, id) {
			ids = append(ids, id)
		}
	}
	for i, id := range ids {
		x := node(id)
		for _, at := range r.Perm(i)[:r.IntN(min(i, 8)+1)] {
			x.Deps = append(x.Deps, ids[at])
		}
		l = append(l, x)
	}
	r.Shuffle(n, func(i, j int) { l[i], l[j] = l[j], l[i] })
	return l
}

// P13.3: in an order each one stands once, and behind all whom it reaches.
func TestBehind(t *testing.T) {
	r := rand.New(rand.NewPCG(13, 3))
	for i := range 400 {
		l := goodByChance(r, i%65)
		order, e := graph.Order(l)
		if e != api.OK || len(order) != len(l) {
			t.Fatalf("Order(%v): %d, %d", l, order, e)
		}
		for _, n := range l {
			if at := slices.Index(order, n.Id); at < 0 || slices.Contains(order[at+1:], n.Id) {
				t.Fatalf("Order(%v): %d: not once %d", l, order, n.Id)
			}
		}
		for at, from := range order {
			for _, to := range order[at:] {
				if graph.Reach(l, from, to) {
					t.Fatalf("%v: %d: %d reaches %d", l, order, from, to)
				}
			}
		}
		other := slices.Clone(l)
		r.Shuffle(len(l), func(i, j int) { other[i], other[j] = other[j], other[i] })
		ordered(t, "in another order", other, order...)
	}
}

// P13.3: of rows without other faults there is an order just if nobody reaches themselves.
func TestRound(t *testing.T) {
	r := rand.New(rand.NewPCG(13, 4))
	var count [2]int
	for i := range 2000 {
		l := goodByChance(r, 1+i%64)
		for range r.IntN(4) {
			n := &l[r.IntN(len(l))]
			if dep := l[r.IntN(len(l))].Id; len(n.Deps) < 8 && !slices.Contains(n.Deps, dep) {
				n.Deps = append(n.Deps, dep)
			}
		}
		round := false
		for _, n := range l {
			round = round || graph.Reach(l, n.Id, n.Id)
		}
		order, e := graph.Order(l)
		if round && (e != api.ErrCircle || order != nil) || !round && (e != api.OK || len(order) != len(l)) {
			t.Fatalf("Order(%v): %d, %d; one reaches themselves: %v", l, order, e, round)
		}
		if round {
			count[1]++
		} else {
			count[0]++
		}
	}
	if min(count[0], count[1]) < 200 {
		t.Fatalf("rows: %d", count)
	}
}

// Rows by chance, of all kinds, are told as the chapter's words tell them.
func TestChance(t *testing.T) {
	r := rand.New(rand.NewPCG(13, 5))
	count := map[api.Errno]int{}
	for i := range 3000 {
		var l []api.Node
		switch i % 6 {
		case 0:
			l = byChance(r, r.IntN(9), r.IntN(11), 1+r.Uint64N(20))
		case 1:
			l = byChance(r, r.IntN(7), 3, 12)
		case 2:
			l = byChance(r, 60+r.IntN(8), 2, 30)
		case 3:
			l = byChance(r, r.IntN(20), r.IntN(40), 1+r.Uint64N(9))
		default:
			l = goodByChance(r, r.IntN(24))
			for range r.IntN(3) {
				l = spoiled(r, l)
			}
		}
		count[graph.May(l)]++
		told(t, "by chance", l, r.Uint64N(30))
	}
	for _, e := range []api.Errno{api.OK, api.ErrLong, api.ErrTwice, api.ErrNone, api.ErrCircle} {
		if count[e] < 50 {
			t.Fatalf("%d rows of %d: %v", count[e], e, count)
		}
	}
}

// spoiled is a row with one thing changed.
func spoiled(r *rand.Rand, l []api.Node) []api.Node {
	if len(l) == 0 {
		return row(node(5, 5))
	}
	a, b := &l[r.IntN(len(l))], l[r.IntN(len(l))]
	switch r.IntN(6) {
	case 0:
		a.Id = b.Id
	case 1:
		a.Deps = append(a.Deps, b.Id)
	case 2:
		a.Deps = append(a.Deps, a.Deps...)
	case 3:
		a.Deps = append(a.Deps, r.Uint64())
	case 4:
		return slices.Insert(l, r.IntN(len(l)+1), b)
	case 5:
		return append(l, node(r.Uint64(), a.Id, b.Id))
	}
	return l
}

// P1: great rows, and rows of very many ways, come to an end soon.
func TestEnds(t *testing.T) {
	many := make([]uint64, 1<<20)
	for i := range many {
		many[i] = uint64(i)*2654435761 + 1000
	}
	l := make([]api.Node, 64)
	for i := range l {
		l[i] = api.Node{Id: uint64(i), Deps: many}
	}
	may(t, "very many Deps", l, api.ErrLong)
	if graph.Reach(l, 5, 999) || !graph.Reach(l, 5, many[1<<20-1]) || len(graph.Users(l, many[1<<20-1])) != 64 || graph.Users(l, 999) != nil {
		t.Fatal("very many Deps")
	}
	for i := range l {
		l[i].Id = 7
	}
	if graph.Reach(l, 7, 7) || !graph.Reach(l, 7, many[9]) || !slices.Equal(graph.Users(l, many[9]), []uint64{7}) {
		t.Fatal("very many Deps of one Id")
	}
	great := slices.Repeat(l, 1<<14)
	may(t, "very many nodes", great, api.ErrLong)
	if graph.Reach(great, 7, many[9]) || graph.Users(great, many[9]) != nil {
		t.Fatal("very many nodes")
	}
	// Each of two waits for both of the next two: 2^31 ways lead down.
	var ladder []api.Node
	for i := range uint64(32) {
		ladder = append(ladder, node(2*i, 2*i+2, 2*i+3), node(2*i+1, 2*i+2, 2*i+3))
	}
	may(t, "a ladder, open", ladder, api.ErrNone)
	if graph.Reach(ladder, 0, 0) || graph.Reach(ladder, 1, 99) || !graph.Reach(ladder, 1, 65) {
		t.Fatal("a ladder, open: Reach")
	}
	ladder[62].Deps, ladder[63].Deps = nil, nil
	told(t, "a ladder", ladder, 99)
	ladder[62].Deps = []uint64{0}
	may(t, "a ladder, closed", ladder, api.ErrCircle)
	told(t, "a ladder, closed", ladder, 99)
}

// FuzzGraph makes a row of bytes: each one that is above 127 begins a node, all others are Deps.
func FuzzGraph(f *testing.F) {
	f.Add([]byte{131, 1, 129, 130, 3}, uint64(0))
	f.Add([]byte{129, 2, 130, 1, 133, 133, 5, 5, 9}, uint64(1<<63))
	f.Add([]byte{129, 1, 2, 3, 4, 5, 6, 7, 8, 9}, uint64(last))
	f.Fuzz(func(t *testing.T, b []byte, base uint64) {
		if len(b) > 300 {
			return
		}
		l := row()
		for _, c := range b {
			if c > 127 {
				l = append(l, node(uint64(c&63)+base))
			} else if len(l) > 0 {
				n := &l[len(l)-1]
				n.Deps = append(n.Deps, uint64(c&63)+base)
			}
		}
		told(t, "fuzz", l, base-1)
	})
}
