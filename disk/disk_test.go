package disk_test

import (
	"bytes"
	"fmt"
	"maps"
	"math"
	"math/rand/v2"
	"slices"
	"strings"
	"testing"

	"ringer/api"
	"ringer/disk"
)

// stand is how a file stands: that it is there, and its bytes.
type stand struct {
	there bool
	text  string
}

// history is how a file stood behind each of its loose parts, one by one; the first one is what is sure.
type history struct {
	stands []stand
	loose  bool
}

func (h history) sure() stand { return h.stands[0] }
func (h history) now() stand  { return h.stands[len(h.stands)-1] }

// model is a disk, word for word as the chapter tells it.
type model map[string]history

func (m model) of(name string) history {
	if h, ok := m[name]; ok {
		return h
	}
	return history{stands: []stand{{}}}
}

// then puts one more part behind.
func (m model) then(name string, s stand) {
	h := m.of(name)
	m[name] = history{append(slices.Clone(h.stands), s), true}
}

func (m model) names() (l []string) {
	for _, name := range slices.Sorted(maps.Keys(m)) {
		if m.of(name).now().there {
			l = append(l, name)
		}
	}
	return l
}

func (m model) loose() (l []string) {
	for _, name := range slices.Sorted(maps.Keys(m)) {
		if m.of(name).loose {
			l = append(l, name)
		}
	}
	return l
}

func mayName(name string) bool { return len(name) >= 1 && len(name) <= 64 }

func (m model) append(name, b string) api.Errno {
	now := m.of(name).now()
	switch {
	case !mayName(name):
		return api.ErrArg
	case !now.there:
		return m.replace(name, b)
	case len(now.text)+len(b) > 1<<20:
		return api.ErrFull
	}
	for i := range len(b) {
		m.then(name, stand{true, now.text + b[:i+1]})
	}
	h := m.of(name)
	m[name] = history{h.stands, true}
	return api.OK
}

func (m model) replace(name, b string) api.Errno {
	if !mayName(name) {
		return api.ErrArg
	}
	if len(b) > 1<<20 || !m.of(name).now().there && len(m.names()) >= 64 {
		return api.ErrFull
	}
	m.then(name, stand{true, b})
	return api.OK
}

func (m model) remove(name string) api.Errno {
	if !mayName(name) {
		return api.ErrArg
	}
	if !m.of(name).now().there {
		return api.ErrNone
	}
	m.then(name, stand{})
	return api.OK
}

func (m model) sync(name string) api.Errno {
	h := m.of(name)
	switch {
	case !mayName(name):
		return api.ErrArg
	case !h.now().there && !h.loose:
		return api.ErrNone
	}
	m[name] = history{stands: []stand{h.now()}}
	return api.OK
}

func (m model) crash(stay []int) {
	for i, name := range m.loose() {
		n := 0
		if i < len(stay) {
			n = min(max(stay[i], 0), len(m[name].stands)-1)
		}
		m[name] = history{stands: []stand{m[name].stands[n]}}
	}
}

// same fails unless a disk stands as the model does, at all of the model's names and some others.
func same(t *testing.T, what any, d *disk.Disk, m model) {
	t.Helper()
	for _, name := range append(slices.Collect(maps.Keys(m)), "", "never was", strings.Repeat("n", 65)) {
		h := m.of(name)
		if b, ok := d.Read(name); string(b) != h.now().text || ok != h.now().there {
			t.Fatalf("%v: Read(%.9q): %.99q, %v; want %.99q, %v", what, name, b, ok, h.now().text, h.now().there)
		}
		if b, ok := d.Sure(name); string(b) != h.sure().text || ok != h.sure().there {
			t.Fatalf("%v: Sure(%.9q): %.99q, %v; want %.99q, %v", what, name, b, ok, h.sure().text, h.sure().there)
		}
	}
	if l := d.Names(); !slices.Equal(l, m.names()) {
		t.Fatalf("%v: Names: %.9q; want %.9q", what, l, m.names())
	}
	if l := d.Loose(); !slices.Equal(l, m.loose()) {
		t.Fatalf("%v: Loose: %.9q; want %.9q", what, l, m.loose())
	}
}

// step is one change of a disk, and of the model.
type step struct {
	call, name, text string
}

func (s step) String() string { return fmt.Sprintf("%s(%.9q, %.9q)", s.call, s.name, s.text) }

func (s step) onDisk(d *disk.Disk) api.Errno {
	switch s.call {
	case "Append":
		return d.Append(s.name, []byte(s.text))
	case "Replace":
		return d.Replace(s.name, []byte(s.text))
	case "Remove":
		return d.Remove(s.name)
	}
	return d.Sync(s.name)
}

func (s step) onModel(m model) api.Errno {
	switch s.call {
	case "Append":
		return m.append(s.name, s.text)
	case "Replace":
		return m.replace(s.name, s.text)
	case "Remove":
		return m.remove(s.name)
	}
	return m.sync(s.name)
}

// steps does steps in both, and fails where they differ.
func steps(t *testing.T, d *disk.Disk, m model, l ...step) {
	t.Helper()
	for _, s := range l {
		was := maps.Clone(m)
		e, want := s.onDisk(d), s.onModel(m)
		if e != want {
			t.Fatalf("%v: %d; want %d", s, e, want)
		}
		if e != api.OK {
			same(t, s, d, was)
		}
		same(t, s, d, m)
	}
}

// torn fails unless a copy that crashes with those numbers stands as the model's does.
func torn(t *testing.T, what any, d *disk.Disk, m model, stay ...int) {
	t.Helper()
	c, n := d.Copy(), maps.Clone(m)
	c.Crash(stay)
	n.crash(stay)
	same(t, fmt.Sprint(what, "; Crash", stay), c, n)
}

// is fails unless a call tells want.
func is(t *testing.T, what string, e, want api.Errno) {
	t.Helper()
	if e != want {
		t.Fatalf("%s: %d; want %d", what, e, want)
	}
}

// reads fails unless a file is there, with these bytes.
func reads(t *testing.T, d *disk.Disk, name, want string) {
	t.Helper()
	if b, ok := d.Read(name); string(b) != want || !ok {
		t.Fatalf("Read(%.9q): %.99q (%d bytes), %v; want %.99q (%d bytes)", name, b, len(b), ok, want, len(want))
	}
}

// sure fails unless these bytes of a file are sure.
func sure(t *testing.T, d *disk.Disk, name, want string) {
	t.Helper()
	if b, ok := d.Sure(name); string(b) != want || !ok {
		t.Fatalf("Sure(%.9q): %.99q (%d bytes), %v; want %.99q (%d bytes)", name, b, len(b), ok, want, len(want))
	}
}

// gone fails unless a file is not there.
func gone(t *testing.T, d *disk.Disk, name string) {
	t.Helper()
	if b, ok := d.Read(name); b != nil || ok {
		t.Fatalf("Read(%.9q): %.99q, %v; it is gone", name, b, ok)
	}
}

// unsure fails unless nothing of a file is sure.
func unsure(t *testing.T, d *disk.Disk, name string) {
	t.Helper()
	if b, ok := d.Sure(name); b != nil || ok {
		t.Fatalf("Sure(%.9q): %.99q, %v; nothing is", name, b, ok)
	}
}

// named fails unless a disk has these files, and of these something is loose.
func named(t *testing.T, d *disk.Disk, names, loose []string) {
	t.Helper()
	if l := d.Names(); !slices.Equal(l, names) {
		t.Fatalf("Names: %.9q; want %.9q", l, names)
	}
	if l := d.Loose(); !slices.Equal(l, loose) {
		t.Fatalf("Loose: %.9q; want %.9q", l, loose)
	}
}

// synced is a disk on which each of these files has its name as its bytes, all of them sure.
func synced(t *testing.T, names ...string) *disk.Disk {
	t.Helper()
	d := disk.New()
	for _, name := range names {
		is(t, "Append", d.Append(name, []byte(name)), api.OK)
		is(t, "Sync", d.Sync(name), api.OK)
	}
	return d
}

// many are n names, in order.
func many(n int) (l []string) {
	for i := range n {
		l = append(l, fmt.Sprintf("%03d", i))
	}
	return l
}

// The chapter's examples.
func TestExamples(t *testing.T) {
	d := disk.New()
	is(t, "Append", d.Append("a", []byte("xy")), api.OK)
	is(t, "Sync", d.Sync("a"), api.OK)
	is(t, "Append", d.Append("a", []byte("zw")), api.OK)
	d.Crash([]int{1})
	reads(t, d, "a", "xyz")
	is(t, "Replace", d.Replace("a", []byte("q")), api.OK)
	is(t, "Append", d.Append("a", []byte("r")), api.OK)
	d.Crash(nil)
	reads(t, d, "a", "xyz")
	d.Crash([]int{9})
	reads(t, d, "a", "xyz")
}

// The chapter's words ahead of the promises: of nil, and of a disk that New did not make, nothing is told.
func TestNoDisk(t *testing.T) {
	for i, d := range []*disk.Disk{nil, {}, new(disk.Disk)} {
		for range 2 {
			for _, name := range []string{"a", "", strings.Repeat("a", 64), strings.Repeat("a", 65), "\x00"} {
				for _, b := range [][]byte{nil, {}, {1}, make([]byte, api.MaxFile+1)} {
					is(t, "Append", d.Append(name, b), api.ErrNil)
					is(t, "Replace", d.Replace(name, b), api.ErrNil)
				}
				is(t, "Remove", d.Remove(name), api.ErrNil)
				is(t, "Sync", d.Sync(name), api.ErrNil)
				gone(t, d, name)
				unsure(t, d, name)
			}
			for _, stay := range [][]int{nil, {}, {0}, {1, 2}, {-1}, {math.MaxInt}, {math.MinInt}} {
				d.Crash(stay)
			}
			if l := d.Names(); l != nil {
				t.Errorf("%d: Names: %q", i, l)
			}
			if l := d.Loose(); l != nil {
				t.Errorf("%d: Loose: %q", i, l)
			}
			if c := d.Copy(); c != nil {
				t.Errorf("%d: Copy: %v", i, c)
			}
		}
	}
}

// P9.1, P9.2: a new disk has nothing, and each is one of its own.
func TestNew(t *testing.T) {
	d := disk.New()
	if d == nil {
		t.Fatal("New: nil")
	}
	same(t, "New", d, model{})
	same(t, "Copy", d.Copy(), model{})
	is(t, "Remove", d.Remove("a"), api.ErrNone)
	is(t, "Sync", d.Sync("a"), api.ErrNone)
	is(t, "Append", d.Append("a", nil), api.OK)
	same(t, "New", disk.New(), model{})
}

// P9.1: a name has 1 to 64 bytes, any of them; of others it is ErrArg, and nothing changes.
func TestNameMayBe(t *testing.T) {
	for _, name := range []string{
		"a", "\x00", "\xff", " ", "/", "..", "\n", "é", "\xc3", "vote", "log.00000001", strings.Repeat("a", 63), strings.Repeat("a", 64),
		strings.Repeat("\x00", 64), strings.Repeat("\xff", 64), strings.Repeat("/", 64), strings.Repeat("é", 32), strings.Repeat("€", 21),
	} {
		m := model{}
		d := disk.New()
		steps(t, d, m, step{"Append", name, "x"}, step{"Sync", name, ""}, step{"Replace", name, "yz"}, step{"Append", name, "w"}, step{"Remove", name, ""}, step{"Sync", name, ""}, step{"Replace", name, ""})
		if l := d.Names(); !slices.Equal(l, []string{name}) {
			t.Errorf("Names: %q; want %q", l, name)
		}
	}
}

// wrongNames are names that may not be: of no bytes, and of more than 64, also if they have fewer signs.
func wrongNames() []string {
	return []string{
		"", strings.Repeat("a", 65), strings.Repeat("\x00", 65), strings.Repeat("\xff", 65), strings.Repeat("/", 66), strings.Repeat("é", 33), strings.Repeat("€", 22),
		strings.Repeat("a", 128), strings.Repeat("a", 64) + "\x00", strings.Repeat("a", 1000), strings.Repeat("a", 1<<16+1), strings.Repeat("a", api.MaxFile+64),
	}
}

// P9.1: ErrArg, whether or not there is a file, or something is loose.
func TestNameMayNot(t *testing.T) {
	begun := strings.Repeat("a", 64) // with which some of the wrong ones begin
	m := model{}
	d := disk.New()
	for _, others := range [][]step{nil, {{"Append", begun, "x"}}, {{"Sync", begun, ""}, {"Append", "b", "yz"}}, {{"Remove", begun, ""}}} {
		steps(t, d, m, others...)
		for _, name := range wrongNames() {
			for _, b := range [][]byte{nil, {}, {1}, make([]byte, api.MaxFile), make([]byte, api.MaxFile+1)} {
				is(t, "Append", d.Append(name, b), api.ErrArg)
				is(t, "Replace", d.Replace(name, b), api.ErrArg)
			}
			is(t, "Remove", d.Remove(name), api.ErrArg)
			is(t, "Sync", d.Sync(name), api.ErrArg)
			gone(t, d, name)
			unsure(t, d, name)
		}
		same(t, others, d, m)
	}
}

// P9.1: ErrArg ahead of ErrFull and of ErrNone.
func TestErrArgFirst(t *testing.T) {
	full := synced(t, many(api.MaxFiles)...)
	for _, d := range []*disk.Disk{disk.New(), full} {
		for _, name := range wrongNames() {
			for _, n := range []int{0, 1, api.MaxFile + 1} {
				is(t, "Append", d.Append(name, make([]byte, n)), api.ErrArg)
				is(t, "Replace", d.Replace(name, make([]byte, n)), api.ErrArg)
			}
			is(t, "Remove", d.Remove(name), api.ErrArg)
			is(t, "Sync", d.Sync(name), api.ErrArg)
		}
	}
	named(t, full, many(api.MaxFiles), nil)
}

// P9.1: none and no bytes at all are one; one byte.
func TestFewBytes(t *testing.T) {
	for _, none := range [][]byte{nil, {}} {
		for _, put := range []func(*disk.Disk) api.Errno{
			func(d *disk.Disk) api.Errno { return d.Append("a", none) },
			func(d *disk.Disk) api.Errno { return d.Replace("a", none) },
		} {
			d := disk.New()
			is(t, "of no bytes", put(d), api.OK)
			reads(t, d, "a", "")
			unsure(t, d, "a")
			named(t, d, []string{"a"}, []string{"a"})
			is(t, "Sync", d.Sync("a"), api.OK)
			reads(t, d, "a", "")
			sure(t, d, "a", "")
			named(t, d, []string{"a"}, nil)
		}
		d := synced(t, "a")
		is(t, "Append", d.Append("a", []byte{0}), api.OK)
		is(t, "Append", d.Append("a", none), api.OK)
		reads(t, d, "a", "a\x00")
		is(t, "Replace", d.Replace("a", none), api.OK)
		reads(t, d, "a", "")
		sure(t, d, "a", "a")
	}
}

// P9.1: a file has MaxFile bytes at most, which come at once.
func TestMaxFileAtOnce(t *testing.T) {
	most := bytes.Repeat([]byte("0123456789abcdef"), api.MaxFile/16)
	over := append(slices.Clone(most), 'x')
	d := disk.New()
	for _, b := range [][]byte{over, append(slices.Clone(most), most...)} {
		is(t, "Append of too many", d.Append("a", b), api.ErrFull)
		is(t, "Replace by too many", d.Replace("a", b), api.ErrFull)
		same(t, "refused", d, model{})
		is(t, "Sync", d.Sync("a"), api.ErrNone)
	}
	is(t, "Append of the most", d.Append("a", most), api.OK)
	is(t, "Replace by the most", d.Replace("b", most), api.OK)
	for _, name := range []string{"a", "b"} {
		reads(t, d, name, string(most))
		is(t, "Sync", d.Sync(name), api.OK)
		for _, n := range []int{1, 2, 1000, api.MaxFile, api.MaxFile + 1} {
			is(t, "Append behind the most", d.Append(name, make([]byte, n)), api.ErrFull)
		}
		is(t, "Replace by too many", d.Replace(name, over), api.ErrFull)
		reads(t, d, name, string(most))
		sure(t, d, name, string(most))
	}
	named(t, d, []string{"a", "b"}, nil)
	is(t, "Append of none behind the most", d.Append("a", nil), api.OK)
	is(t, "Replace of the most by the most", d.Replace("b", make([]byte, api.MaxFile)), api.OK)
	reads(t, d, "a", string(most))
	reads(t, d, "b", strings.Repeat("\x00", api.MaxFile))
	named(t, d, []string{"a", "b"}, []string{"a", "b"})
}

// P9.1: a file has MaxFile bytes at most, which come bit by bit, with syncs between them and without.
func TestMaxFileBitByBit(t *testing.T) {
	for _, x := range []struct{ first, bit, sync int }{
		{0, 1, 0}, {1, 1, 999}, {api.MaxFile - 3, 1, 0}, {api.MaxFile - 3, 1, 1}, {0, 4096, 0}, {0, 4096, 5}, {0, 999, 1}, {0, api.MaxFile/2 + 1, 0}, {api.MaxFile, 1, 1},
	} {
		d := disk.New()
		want := bytes.Repeat([]byte("f"), x.first)
		is(t, "Replace", d.Replace("a", want), api.OK)
		for i := 0; len(want) < api.MaxFile; i++ {
			b := bytes.Repeat([]byte{byte(i)}, x.bit)
			for ; len(want)+len(b) > api.MaxFile; b = b[1:] {
				is(t, "Append of too many", d.Append("a", b), api.ErrFull)
			}
			is(t, "Append", d.Append("a", b), api.OK)
			want = append(want, b...)
			if x.sync > 0 && i%x.sync == 0 {
				is(t, "Sync", d.Sync("a"), api.OK)
			}
		}
		is(t, "Append of too many", d.Append("a", []byte("x")), api.ErrFull)
		reads(t, d, "a", string(want))
		d.Crash([]int{math.MaxInt})
		sure(t, d, "a", string(want))
		is(t, "Append of too many", d.Append("a", []byte("x")), api.ErrFull)
		named(t, d, []string{"a"}, nil)
	}
}

// P9.1: how many bytes a file has is what counts, not how many came, nor how many are sure.
func TestMaxFileOfWhatIsThere(t *testing.T) {
	most := make([]byte, api.MaxFile)
	d := disk.New()
	is(t, "Append", d.Append("a", most), api.OK)
	is(t, "Sync", d.Sync("a"), api.OK)
	is(t, "Replace", d.Replace("a", []byte("x")), api.OK)
	is(t, "Append", d.Append("a", most), api.ErrFull)
	is(t, "Append", d.Append("a", most[1:]), api.OK)
	is(t, "Remove", d.Remove("a"), api.OK)
	is(t, "Append", d.Append("a", most), api.OK)
	is(t, "Append", d.Append("a", []byte("x")), api.ErrFull)
	is(t, "Append", d.Append("b", most), api.OK)
	d.Crash([]int{api.MaxFile - 8}) // the replacement, and all but 9 of the bytes behind
	if b, _ := d.Read("a"); len(b) != api.MaxFile-8 {
		t.Errorf("%d bytes", len(b))
	}
	gone(t, d, "b")
	is(t, "Append", d.Append("a", make([]byte, 9)), api.ErrFull)
	is(t, "Append", d.Append("a", make([]byte, 8)), api.OK)
}

// puts are both calls that make files.
func puts() map[string]func(d *disk.Disk, name string) api.Errno {
	return map[string]func(d *disk.Disk, name string) api.Errno{
		"Append":  func(d *disk.Disk, name string) api.Errno { return d.Append(name, []byte("x")) },
		"Replace": func(d *disk.Disk, name string) api.Errno { return d.Replace(name, []byte("x")) },
		"none":    func(d *disk.Disk, name string) api.Errno { return d.Append(name, nil) },
		"empty":   func(d *disk.Disk, name string) api.Errno { return d.Replace(name, nil) },
	}
}

// P9.1: MaxFiles files at most, synced or not.
func TestMaxFiles(t *testing.T) {
	for call, put := range puts() {
		for _, syncing := range []bool{true, false} {
			d := disk.New()
			for i, name := range many(api.MaxFiles) {
				is(t, fmt.Sprint(call, " of file ", i+1), put(d, name), api.OK)
				if syncing {
					is(t, "Sync", d.Sync(name), api.OK)
				}
			}
			for range 2 {
				for more, another := range puts() {
					is(t, more+" of one more", another(d, "one more"), api.ErrFull)
					gone(t, d, "one more")
					is(t, more+" of one that is there", another(d, "000"), api.OK)
				}
			}
			is(t, "Sync", d.Sync("one more"), api.ErrNone)
			is(t, "Remove", d.Remove("one more"), api.ErrNone)
			if l := d.Names(); !slices.Equal(l, many(api.MaxFiles)) {
				t.Errorf("Names: %q", l)
			}
		}
	}
}

// P9.1: there is room for another file once one of 64 is removed, whether that is synced or not.
func TestMaxFilesOnceOneIsRemoved(t *testing.T) {
	for call, put := range puts() {
		for _, syncing := range []bool{true, false} {
			d := synced(t, many(api.MaxFiles)...)
			is(t, call, put(d, "064"), api.ErrFull)
			is(t, "Remove", d.Remove("000"), api.OK)
			if syncing {
				is(t, "Sync", d.Sync("000"), api.OK)
			}
			is(t, call+" of one more", put(d, "064"), api.OK)
			is(t, call+" of the one that was removed", put(d, "000"), api.ErrFull)
			is(t, call+" of one more yet", put(d, "065"), api.ErrFull)
			if l := d.Names(); !slices.Equal(l, many(65)[1:]) {
				t.Errorf("Names: %q", l)
			}
			is(t, "Remove", d.Remove("064"), api.OK)
			is(t, call+" of the one that was removed", put(d, "000"), api.OK)
			if l := d.Names(); !slices.Equal(l, many(64)) {
				t.Errorf("Names: %q", l)
			}
		}
	}
}

// P9.1, P9.3: what a crash brings back counts as all else does; nothing is lost by it.
func TestMaxFilesBehindACrash(t *testing.T) {
	d := synced(t, many(api.MaxFiles)...)
	is(t, "Remove", d.Remove("000"), api.OK)
	is(t, "Append", d.Append("064", []byte("x")), api.OK)
	is(t, "Sync", d.Sync("064"), api.OK)
	d.Crash(nil)
	named(t, d, many(65), nil)
	for call, put := range puts() {
		is(t, call+" of another", put(d, "065"), api.ErrFull)
	}
	is(t, "Append to one that is there", d.Append("000", []byte("y")), api.OK)
	is(t, "Replace of one that is there", d.Replace("001", []byte("z")), api.OK)
	is(t, "Remove", d.Remove("002"), api.OK)
	is(t, "Append", d.Append("065", nil), api.ErrFull)
	is(t, "Remove", d.Remove("003"), api.OK)
	is(t, "Append", d.Append("065", nil), api.OK)
	d = synced(t, many(api.MaxFiles-1)...)
	is(t, "Append", d.Append("063", []byte("x")), api.OK)
	is(t, "Append", d.Append("064", []byte("x")), api.ErrFull)
	d.Crash(nil)
	is(t, "Append", d.Append("064", []byte("x")), api.OK)
}

// P9.1: Remove and Sync of a file that never was, that was removed, that was removed and synced.
func TestRemoveAndSync(t *testing.T) {
	remove, sync := step{"Remove", "a", ""}, step{"Sync", "a", ""}
	for _, l := range [][]step{
		{remove, sync, remove, sync},
		{{"Append", "a", "x"}, remove, remove, sync, sync, remove},
		{{"Append", "a", "x"}, sync, remove, remove, sync, sync, remove},
		{{"Append", "a", "x"}, sync, sync, sync, remove, sync},
		{{"Replace", "a", ""}, remove, {"Replace", "a", "y"}, remove, sync, sync},
		{{"Replace", "a", "xy"}, sync, {"Append", "a", "z"}, remove, {"Append", "a", "w"}, sync, remove, {"Append", "a", ""}, sync},
		{{"Append", "b", "x"}, remove, sync, {"Sync", "b", ""}, remove, sync},
	} {
		d, m := disk.New(), model{}
		for _, s := range l {
			steps(t, d, m, s)
			for n := range 6 {
				torn(t, l, d, m, n)
			}
		}
	}
	d := disk.New()
	is(t, "Remove of one that never was", d.Remove("a"), api.ErrNone)
	is(t, "Sync of one that never was", d.Sync("a"), api.ErrNone)
	is(t, "Append", d.Append("a", []byte("x")), api.OK)
	is(t, "Remove", d.Remove("a"), api.OK)
	is(t, "Remove of one that was removed", d.Remove("a"), api.ErrNone)
	named(t, d, nil, []string{"a"})
	is(t, "Sync of one that was removed", d.Sync("a"), api.OK)
	is(t, "Sync of one that was removed and synced", d.Sync("a"), api.ErrNone)
	is(t, "Remove of one that was removed and synced", d.Remove("a"), api.ErrNone)
	same(t, "removed", d, model{})
}

// P9.1, P9.3: an Append to a file that was removed, and not synced, is a replacement.
func TestAppendToRemoved(t *testing.T) {
	d := synced(t, "abc")
	is(t, "Remove", d.Remove("abc"), api.OK)
	is(t, "Append", d.Append("abc", []byte("xyz")), api.OK)
	reads(t, d, "abc", "xyz")
	sure(t, d, "abc", "abc")
	for parts, want := range []string{"abc", "gone", "xyz", "xyz"} {
		c := d.Copy()
		c.Crash([]int{parts})
		if want == "gone" {
			same(t, parts, c, model{})
			continue
		}
		reads(t, c, "abc", want)
	}
}

// P9.1 to P9.3: an Append of no bytes to a file that is there lets something be loose, and is no part.
func TestAppendOfNone(t *testing.T) {
	for _, none := range [][]byte{nil, {}} {
		for _, stay := range [][]int{nil, {0}, {1}, {-1}, {math.MaxInt}} {
			d := synced(t, "ab", "b")
			is(t, "Append", d.Append("ab", none), api.OK)
			named(t, d, []string{"ab", "b"}, []string{"ab"})
			reads(t, d, "ab", "ab")
			sure(t, d, "ab", "ab")
			c := d.Copy()
			named(t, c, []string{"ab", "b"}, []string{"ab"})
			c.Crash(stay)
			named(t, c, []string{"ab", "b"}, nil)
			reads(t, c, "ab", "ab")
			sure(t, c, "ab", "ab")
			// It takes its number, though that counts for nothing.
			is(t, "Append", d.Append("b", []byte("cd")), api.OK)
			d.Crash([]int{7, 1})
			reads(t, d, "ab", "ab")
			reads(t, d, "b", "bc")
			is(t, "Append", d.Append("b", none), api.OK)
			is(t, "Sync", d.Sync("b"), api.OK)
			named(t, d, []string{"ab", "b"}, nil)
		}
	}
	d := disk.New()
	is(t, "Append", d.Append("a", nil), api.OK) // a replacement: it is not there
	is(t, "Append", d.Append("a", nil), api.OK)
	is(t, "Append", d.Append("a", []byte("x")), api.OK)
	is(t, "Append", d.Append("a", nil), api.OK)
	is(t, "Append", d.Append("a", []byte("y")), api.OK)
	c := d.Copy()
	c.Crash([]int{1})
	sure(t, c, "a", "")
	c = d.Copy()
	c.Crash([]int{2})
	sure(t, c, "a", "x")
	d.Crash(nil)
	gone(t, d, "a")
}

// P9.2: what is told of a file that is there, was removed, was never synced, was synced and changed since.
func TestReadAndSure(t *testing.T) {
	d := disk.New()
	gone(t, d, "a")
	unsure(t, d, "a")
	is(t, "Append", d.Append("a", []byte("xy")), api.OK)
	reads(t, d, "a", "xy")
	unsure(t, d, "a")
	is(t, "Sync", d.Sync("a"), api.OK)
	reads(t, d, "a", "xy")
	sure(t, d, "a", "xy")
	is(t, "Append", d.Append("a", []byte("zw")), api.OK)
	reads(t, d, "a", "xyzw")
	sure(t, d, "a", "xy")
	is(t, "Replace", d.Replace("a", []byte("q")), api.OK)
	reads(t, d, "a", "q")
	sure(t, d, "a", "xy")
	is(t, "Remove", d.Remove("a"), api.OK)
	gone(t, d, "a")
	sure(t, d, "a", "xy")
	is(t, "Sync", d.Sync("a"), api.OK)
	gone(t, d, "a")
	unsure(t, d, "a")
	gone(t, d, "")
	unsure(t, d, strings.Repeat("a", 65))
}

// P9.2: a file that was never synced, and removed, is nowhere but among the loose ones.
func TestGoneIsLoose(t *testing.T) {
	d := synced(t, "b", "c", "d")
	is(t, "Append", d.Append("a", []byte("x")), api.OK)
	is(t, "Remove", d.Remove("a"), api.OK)
	is(t, "Remove", d.Remove("c"), api.OK)
	is(t, "Append", d.Append("d", []byte("x")), api.OK)
	named(t, d, []string{"b", "d"}, []string{"a", "c", "d"})
	unsure(t, d, "a")
	sure(t, d, "c", "c")
	is(t, "Sync", d.Sync("a"), api.OK)
	is(t, "Sync", d.Sync("c"), api.OK)
	named(t, d, []string{"b", "d"}, []string{"d"})
}

// P9.2: none, one and many names, in the order of their bytes; also such of which one begins the other.
func TestNamesInOrder(t *testing.T) {
	rising := []string{"\x00", "\x00\x00", " ", "!", "10", "2", "A", "Z", "a", "a\x00", "a b", "aa", "aaa", "ab", "b", "log.00000001", "log.00000002", "log.00000010", "log.1", "z", "{", "é", "\xff", "\xff\x00", "\xff\xff"}
	rising = append(rising, strings.Repeat("\xff", 64))
	for n := range len(rising) + 1 {
		want := rising[:n]
		for i := range 3 {
			mixed := slices.Clone(want)
			r := rand.New(rand.NewPCG(uint64(n), uint64(i)))
			r.Shuffle(n, func(i, j int) { mixed[i], mixed[j] = mixed[j], mixed[i] })
			d := disk.New()
			for _, name := range mixed {
				is(t, "Append", d.Append(name, []byte(name)), api.OK)
			}
			named(t, d, want, want)
			for _, name := range mixed {
				reads(t, d, name, name)
				is(t, "Sync", d.Sync(name), api.OK)
			}
			named(t, d, want, nil)
			for _, name := range mixed {
				is(t, "Remove", d.Remove(name), api.OK)
			}
			named(t, d, nil, want)
			d.Crash(nil)
			named(t, d, want, nil)
		}
	}
}

// scribble changes all bytes of a list, and those behind it.
func scribble(b []byte) {
	for i := range b[:cap(b)] {
		b[:cap(b)][i] ^= 0x55
	}
}

// scrawl changes all names of a list, and those behind it.
func scrawl(l []string) {
	for i := range l[:cap(l)] {
		l[:cap(l)][i] = "changed"
	}
}

// Rules: what comes in is neither changed nor kept.
func TestNothingIsChangedOrKept(t *testing.T) {
	in := func(b []byte, call func(b []byte)) {
		t.Helper()
		room := slices.Grow(slices.Clone(b), 99)
		all := slices.Clone(room[:cap(room)])
		call(room)
		if !bytes.Equal(room[:cap(room)], all) {
			t.Errorf("changed: %q", b)
		}
		scribble(room)
	}
	d, m := disk.New(), model{}
	for i, s := range []step{{"Append", "a", "xyz"}, {"Append", "a", "w"}, {"Sync", "a", ""}, {"Append", "a", "v"}, {"Replace", "a", "qrs"}, {"Append", "a", "t"}, {"Replace", "b", "ab"}, {"Sync", "b", ""}, {"Replace", "b", "c"}} {
		in([]byte(s.text), func(b []byte) {
			switch s.call {
			case "Append":
				is(t, "Append", d.Append(s.name, b), api.OK)
			case "Replace":
				is(t, "Replace", d.Replace(s.name, b), api.OK)
			default:
				is(t, "Sync", d.Sync(s.name), api.OK)
			}
		})
		is(t, "in the model", s.onModel(m), api.OK)
		same(t, i, d, m)
		for n := range 8 {
			torn(t, s, d, m, n, n)
		}
	}
	stay := []int{2, 1, 5, -1, math.MaxInt}
	d.Crash(stay)
	if !slices.Equal(stay, []int{2, 1, 5, -1, math.MaxInt}) {
		t.Errorf("changed: %v", stay)
	}
	m.crash(stay)
	clear(stay)
	same(t, "crashed", d, m)
}

// Rules: what is told is new memory.
func TestToldIsNewMemory(t *testing.T) {
	d, m := disk.New(), model{}
	for _, s := range []step{
		{"Append", "a", "xyz"}, {"Append", "b", "12"}, {"Sync", "a", ""}, {"Append", "a", "w"}, {"Append", "a", "v"}, {"Replace", "b", "345"}, {"Append", "b", "6"}, {"Append", "b", "78"},
		{"Sync", "b", ""}, {"Append", "b", "9"}, {"Remove", "a", ""}, {"Append", "a", "new"}, {"Append", "c", ""}, {"Remove", "b", ""},
	} {
		steps(t, d, m, s)
		for range 2 {
			for _, name := range []string{"a", "b", "c"} {
				b, _ := d.Read(name)
				scribble(b)
				b, _ = d.Sure(name)
				scribble(b)
				b, _ = d.Read(name)
				_ = append(b, "behind"...)
				b, _ = d.Sure(name)
				_ = append(b, "behind"...)
			}
			scrawl(d.Names())
			scrawl(d.Loose())
			_ = append(d.Names(), "z")
			_ = append(d.Loose(), "z")
			same(t, s, d, m)
			for n := range 9 {
				torn(t, s, d, m, n, n)
			}
		}
	}
}

// P9.2: a copy stands so, and both go on by themselves.
func TestCopy(t *testing.T) {
	begin := []step{
		{"Append", "a", "xy"}, {"Sync", "a", ""}, {"Append", "a", "zw"}, {"Append", "b", "12"}, {"Replace", "b", "3"}, {"Append", "b", "45"}, {"Append", "c", "q"}, {"Sync", "c", ""}, {"Remove", "c", ""},
		{"Replace", "d", ""}, {"Sync", "d", ""}, {"Append", "d", ""}, {"Append", "e", "gone"}, {"Remove", "e", ""},
	}
	changes := [][]step{
		{{"Append", "a", "1"}, {"Append", "b", "2"}, {"Append", "c", "3"}, {"Append", "d", "4"}, {"Append", "e", "5"}},
		{{"Append", "a", "9"}, {"Append", "b", "8"}, {"Append", "c", "7"}, {"Append", "d", "6"}, {"Append", "e", "0"}, {"Append", "f", "-"}},
		{{"Replace", "a", "AA"}, {"Replace", "b", "BB"}, {"Replace", "c", "CC"}, {"Replace", "d", "DD"}, {"Replace", "e", ""}},
		{{"Remove", "a", ""}, {"Remove", "b", ""}, {"Remove", "d", ""}, {"Append", "a", "new"}},
		{{"Sync", "a", ""}, {"Sync", "b", ""}, {"Sync", "c", ""}, {"Sync", "d", ""}, {"Sync", "e", ""}, {"Append", "b", "6"}},
		nil,
	}
	for n := range len(begin) + 1 {
		for _, first := range changes {
			for _, second := range changes {
				for _, stay := range [][]int{nil, {1, 2, 1, 0, 1}, {9, 9, 9, 9, 9, 9}} {
					d, m := disk.New(), model{}
					steps(t, d, m, begin[:n]...)
					c, k := d.Copy(), maps.Clone(m)
					same(t, "Copy", c, k)
					mix(d, m, first)
					mix(c, k, second)
					same(t, "the disk", d, m)
					same(t, "the copy", c, k)
					d.Crash(stay)
					m.crash(stay)
					same(t, "the copy, once the disk has crashed", c, k)
					mix(d, m, second)
					c.Crash(stay)
					k.crash(stay)
					same(t, "the disk, once the copy has crashed", d, m)
					same(t, "the copy", c, k)
				}
			}
		}
	}
}

// mix does steps in both, whatever they tell.
func mix(d *disk.Disk, m model, l []step) {
	for _, s := range l {
		s.onDisk(d)
		s.onModel(m)
	}
}

// P9.2: a copy of a full disk, and a copy of a copy, keep the bounds.
func TestCopyIsADisk(t *testing.T) {
	d := synced(t, many(api.MaxFiles)...).Copy().Copy()
	named(t, d, many(api.MaxFiles), nil)
	is(t, "Append", d.Append("one more", nil), api.ErrFull)
	is(t, "Remove", d.Remove("000"), api.OK)
	is(t, "Append", d.Append("one more", nil), api.OK)
	is(t, "Append", d.Append("", nil), api.ErrArg)
	is(t, "Sync", d.Sync("000"), api.OK)
	is(t, "Sync", d.Sync("000"), api.ErrNone)
}

// P9.3: a crash of nothing.
func TestCrashOfNothing(t *testing.T) {
	for _, stay := range [][]int{nil, {}, {0}, {1}, {-1}, {1, 2, 3}, {math.MaxInt}, {math.MinInt}, make([]int, 1000)} {
		d := disk.New()
		d.Crash(stay)
		same(t, stay, d, model{})
		d = synced(t, "a", "b")
		d.Crash(stay)
		named(t, d, []string{"a", "b"}, nil)
		sure(t, d, "a", "a")
		reads(t, d, "b", "b")
	}
}

// P9.3: 0, 1, as many numbers as there are parts, one more, the greatest int, below 0.
func TestCrashParts(t *testing.T) {
	far := []int{math.MinInt, math.MinInt + 1, -1 << 40, -1 << 32, -2, -1, 0, 1, 2, 3, 4, 5, 6, 7, 8, 255, 256, 1 << 20, 1<<31 - 1, 1 << 31, 1 << 32, 1<<32 + 1, 1 << 40, math.MaxInt - 1, math.MaxInt}
	for _, x := range []struct {
		l    []step
		want []string // by parts; none: it is gone
	}{
		{[]step{{"Append", "a", "wxyz"}}, []string{"none", "=wxyz"}},
		{[]step{{"Replace", "a", "wxyz"}}, []string{"none", "=wxyz"}},
		{[]step{{"Replace", "a", "w"}, {"Append", "a", "xyz"}}, []string{"none", "=w", "=wx", "=wxy", "=wxyz"}},
		{[]step{{"Append", "a", "w"}, {"Append", "a", ""}, {"Append", "a", "x"}, {"Append", "a", "yz"}}, []string{"none", "=w", "=wx", "=wxy", "=wxyz"}},
		{[]step{{"Append", "a", "w"}, {"Sync", "a", ""}, {"Append", "a", "xyz"}}, []string{"=w", "=wx", "=wxy", "=wxyz"}},
		{[]step{{"Append", "a", "w"}, {"Sync", "a", ""}, {"Replace", "a", "xyz"}}, []string{"=w", "=xyz"}},
		{[]step{{"Append", "a", "w"}, {"Sync", "a", ""}, {"Append", "a", "x"}, {"Replace", "a", "xyz"}, {"Append", "a", "12"}}, []string{"=w", "=wx", "=xyz", "=xyz1", "=xyz12"}},
		{[]step{{"Append", "a", "w"}, {"Sync", "a", ""}, {"Remove", "a", ""}}, []string{"=w", "none"}},
		{[]step{{"Append", "a", "w"}, {"Remove", "a", ""}}, []string{"none", "=w", "none"}},
		{[]step{{"Append", "a", "w"}, {"Sync", "a", ""}, {"Append", "a", "xy"}, {"Remove", "a", ""}, {"Append", "a", "zw"}, {"Append", "a", "v"}}, []string{"=w", "=wx", "=wxy", "none", "=zw", "=zwv"}},
		{[]step{{"Replace", "a", ""}, {"Replace", "a", ""}, {"Remove", "a", ""}, {"Replace", "a", ""}, {"Append", "a", "x"}}, []string{"none", "=", "=", "none", "=", "=x"}},
		{[]step{{"Replace", "a", "x"}, {"Replace", "a", "x"}, {"Replace", "a", "y"}}, []string{"none", "=x", "=x", "=y"}},
		{[]step{{"Append", "a", "w"}, {"Sync", "a", ""}, {"Remove", "a", ""}, {"Replace", "a", "x"}, {"Remove", "a", ""}, {"Append", "a", ""}}, []string{"=w", "none", "=x", "none", "="}},
		{[]step{{"Append", "a", "w"}, {"Sync", "a", ""}, {"Append", "a", "xy"}, {"Sync", "a", ""}, {"Append", "a", "z"}}, []string{"=wxy", "=wxyz"}},
		{[]step{{"Append", "a", "w"}, {"Remove", "a", ""}, {"Sync", "a", ""}, {"Append", "a", "z"}}, []string{"none", "=z"}},
	} {
		d, m := disk.New(), model{}
		steps(t, d, m, x.l...)
		for _, n := range far {
			torn(t, x.l, d, m, n)
			c := d.Copy()
			c.Crash([]int{n})
			if text, there := strings.CutPrefix(x.want[min(max(n, 0), len(x.want)-1)], "="); there {
				reads(t, c, "a", text)
				sure(t, c, "a", text)
				named(t, c, []string{"a"}, nil)
			} else {
				same(t, x.l, c, model{})
			}
		}
		torn(t, x.l, d, m)
	}
}

// P9.3: each of many bytes is a part.
func TestCrashOfManyBytes(t *testing.T) {
	b := make([]byte, 300)
	for i := range b {
		b[i] = byte(i * 7)
	}
	for sureBytes := range 3 {
		d := disk.New()
		is(t, "Append", d.Append("a", b[:sureBytes]), api.OK)
		is(t, "Sync", d.Sync("a"), api.OK)
		is(t, "Append", d.Append("a", b[sureBytes:100]), api.OK)
		is(t, "Append", d.Append("a", b[100:]), api.OK)
		for n := range len(b) + 5 {
			c := d.Copy()
			c.Crash([]int{n})
			reads(t, c, "a", string(b[:min(sureBytes+n, len(b))]))
		}
	}
}

// P9.3: the numbers count for the files with something loose alone, in the order of their names; fewer and more of them.
func TestCrashNumbers(t *testing.T) {
	d, m := disk.New(), model{}
	steps(t, d, m,
		step{"Append", "e", "12"}, step{"Append", "a", "12"}, step{"Append", "c", "12"}, step{"Append", "b", "12"}, step{"Append", "d", "12"},
		step{"Sync", "e", ""}, step{"Sync", "a", ""}, step{"Sync", "c", ""}, step{"Sync", "b", ""}, step{"Sync", "d", ""},
		step{"Append", "e", "345"}, step{"Append", "cc", "x"}, step{"Append", "cc", "yz"}, step{"Remove", "b", ""}, step{"Append", "d", ""})
	named(t, d, []string{"a", "c", "cc", "d", "e"}, []string{"b", "cc", "d", "e"})
	for _, x := range []struct {
		stay     []int
		b, cc, e string
	}{
		{nil, "12", "", "12"}, {[]int{}, "12", "", "12"}, {[]int{0}, "12", "", "12"}, {[]int{1}, "", "", "12"}, {[]int{9}, "", "", "12"}, {[]int{0, 2}, "12", "xy", "12"}, {[]int{0, 2, 3}, "12", "xy", "12"},
		{[]int{0, 0, 0, 1}, "12", "", "123"}, {[]int{1, 3, 0, 3}, "", "xyz", "12345"}, {[]int{1, 4, 9, 9}, "", "xyz", "12345"}, {[]int{-1, -1, -1, 2}, "12", "", "1234"}, {[]int{-1, 1, math.MinInt, math.MaxInt, 7, 7}, "12", "x", "12345"},
		{[]int{0, 0, 0, 0, 9, 9, 9}, "12", "", "12"},
	} {
		torn(t, "numbers", d, m, x.stay...)
		c := d.Copy()
		c.Crash(x.stay)
		for name, want := range map[string]string{"a": "12", "b": x.b, "c": "12", "cc": x.cc, "d": "12", "e": x.e} {
			if b, ok := c.Read(name); string(b) != want || ok != (want != "") {
				t.Errorf("Crash(%v): %s: %q, %v; want %q", x.stay, name, b, ok, want)
			}
		}
		if l := c.Loose(); l != nil {
			t.Errorf("Crash(%v): Loose: %q", x.stay, l)
		}
	}
}

// P9.3: a crash behind a crash tears what is loose since then, and nothing else.
func TestCrashBehindACrash(t *testing.T) {
	d, m := disk.New(), model{}
	crash := func(stay ...int) {
		t.Helper()
		d.Crash(stay)
		m.crash(stay)
		same(t, stay, d, m)
		if l := d.Loose(); l != nil {
			t.Fatalf("Loose: %q", l)
		}
	}
	steps(t, d, m, step{"Append", "a", "abc"}, step{"Append", "a", "def"})
	crash(3)
	reads(t, d, "a", "abcde")
	crash()
	crash(0)
	crash(9)
	reads(t, d, "a", "abcde")
	is(t, "Sync", d.Sync("a"), api.OK)
	steps(t, d, m, step{"Append", "a", "xyz"})
	crash(2)
	reads(t, d, "a", "abcdexy")
	steps(t, d, m, step{"Append", "a", "1"}, step{"Remove", "a", ""}, step{"Replace", "a", "new"})
	crash(2)
	gone(t, d, "a")
	is(t, "Sync", d.Sync("a"), api.ErrNone)
	is(t, "Remove", d.Remove("a"), api.ErrNone)
	crash(5)
	steps(t, d, m, step{"Append", "a", "again"})
	crash(1)
	steps(t, d, m, step{"Remove", "a", ""})
	crash(0)
	reads(t, d, "a", "again")
	steps(t, d, m, step{"Append", "a", "!"}, step{"Append", "b", "b"})
	crash(1, 0)
	reads(t, d, "a", "again!")
	gone(t, d, "b")
}

// ends fails unless P9.4 holds of a disk that crashes: with no number, with great ones, and with these.
func ends(t *testing.T, what any, d *disk.Disk, stay []int) {
	t.Helper()
	none, all, some := d.Copy(), d.Copy(), d.Copy()
	none.Crash(nil)
	great := make([]int, len(d.Loose()))
	for i := range great {
		great[i] = math.MaxInt - i
	}
	all.Crash(great)
	some.Crash(stay)
	for _, c := range []*disk.Disk{none, all, some} {
		if l := c.Loose(); len(l) != 0 {
			t.Fatalf("%v: loose behind a crash: %q", what, l)
		}
		for _, name := range slices.Concat(d.Names(), d.Loose(), c.Names()) {
			b, there := c.Read(name)
			s, isSure := c.Sure(name)
			if !bytes.Equal(b, s) || there != isSure {
				t.Fatalf("%v: %q: %q, %v; sure: %q, %v", what, name, b, there, s, isSure)
			}
		}
	}
	for _, name := range slices.Concat(d.Names(), d.Loose(), none.Names(), all.Names()) {
		s, isSure := d.Sure(name)
		if b, there := none.Read(name); !bytes.Equal(b, s) || there != isSure {
			t.Fatalf("%v: %q with no number: %q, %v; want %q, %v", what, name, b, there, s, isSure)
		}
		was, wasThere := d.Read(name)
		if b, there := all.Read(name); !bytes.Equal(b, was) || there != wasThere {
			t.Fatalf("%v: %q with great numbers: %q, %v; want %q, %v", what, name, b, there, was, wasThere)
		}
	}
}

// P9.4: a file that was only appended to has its sure bytes, and is a beginning of what it was.
func TestOnlyAppended(t *testing.T) {
	r := rand.New(rand.NewPCG(9, 4))
	for i := range 300 {
		d := disk.New()
		names := many(1 + r.IntN(5))
		for range r.IntN(40) {
			name := names[r.IntN(len(names))]
			if r.IntN(4) == 0 {
				d.Sync(name)
			}
			is(t, "Append", d.Append(name, []byte("0123456789"[r.IntN(10):])), api.OK)
		}
		stay := numbers(r, len(names))
		ends(t, i, d, stay)
		c := d.Copy()
		c.Crash(stay)
		for _, name := range d.Names() {
			s, isSure := d.Sure(name)
			was, _ := d.Read(name)
			b, there := c.Read(name)
			if isSure && !there || !bytes.HasPrefix(b, s) || !bytes.HasPrefix(was, b) {
				t.Fatalf("Crash(%v): %q: %q, sure were %q of %q", stay, name, b, s, was)
			}
		}
	}
}

// numbers are up to n + 1 numbers of a crash.
func numbers(r *rand.Rand, n int) (l []int) {
	for range r.IntN(n + 2) {
		if r.IntN(9) == 0 {
			l = append(l, []int{math.MaxInt, math.MinInt, -1, 1 << 32, 1 << 31}[r.IntN(5)])
		} else {
			l = append(l, r.IntN(12))
		}
	}
	return l
}

// kinds are some changes of a file.
func kinds(name string) []step {
	return []step{{"Append", name, ""}, {"Append", name, "x"}, {"Append", name, "yz"}, {"Replace", name, ""}, {"Replace", name, "pq"}, {"Remove", name, ""}, {"Sync", name, ""}}
}

// rows goes over all rows of n of these steps.
func rows(l []step, n int, do func([]step)) {
	row := make([]step, n)
	var from func(i int)
	from = func(i int) {
		if i == n {
			do(row)
			return
		}
		for _, s := range l {
			row[i] = s
			from(i + 1)
		}
	}
	from(0)
}

// P9.1 to P9.4: all rows of five changes of one file, with each number of parts.
func TestAllOfOneFile(t *testing.T) {
	rows(kinds("a"), 5, func(l []step) {
		d, m := disk.New(), model{}
		steps(t, d, m, l...)
		most := len(m.of("a").stands)
		for n := -1; n <= most; n++ {
			torn(t, l, d, m, n)
		}
		torn(t, l, d, m)
		ends(t, l, d, []int{most / 2})
	})
}

// P9.1 to P9.4: all rows of three changes of two files.
func TestAllOfTwoFiles(t *testing.T) {
	both := append(kinds("a"), kinds("aa")...)
	rows(both, 3, func(l []step) {
		d, m := disk.New(), model{}
		steps(t, d, m, l...)
		for n := range 4 {
			torn(t, l, d, m, n)
			torn(t, l, d, m, 0, n)
			torn(t, l, d, m, 2, n)
			torn(t, l, d, m, n, 1, 1)
		}
		ends(t, l, d, []int{1, 1})
	})
}

// P9.1 to P9.4: long rows of changes and crashes by chance.
func TestMany(t *testing.T) {
	r := rand.New(rand.NewPCG(9, 9))
	for i := range 60 {
		d, m := disk.New(), model{}
		names := append(many(1+r.IntN(80)), "", strings.Repeat("a", 65))
		for j := range 150 {
			name := names[r.IntN(len(names))]
			s := step{"Sync", name, ""}
			switch k := r.IntN(10); {
			case k < 4:
				s = step{"Append", name, "abcdefg"[r.IntN(8):]}
			case k < 6:
				s = step{"Replace", name, "hijklmn"[r.IntN(8):]}
			case k < 7:
				s.call = "Remove"
			}
			steps(t, d, m, s)
			if j%10 == 9 {
				stay := numbers(r, len(d.Loose()))
				torn(t, i, d, m, stay...)
				ends(t, i, d, stay)
			}
			if r.IntN(50) == 0 {
				stay := numbers(r, len(d.Loose()))
				d.Crash(stay)
				m.crash(stay)
				same(t, stay, d, m)
			}
		}
	}
}

// P1: a disk that was filled in every way goes on.
func TestFullOfAll(t *testing.T) {
	d := disk.New()
	big := make([]byte, api.MaxFile)
	for _, name := range many(api.MaxFiles) {
		is(t, "Replace", d.Replace(name, big), api.OK)
	}
	is(t, "Replace", d.Replace("one more", nil), api.ErrFull)
	is(t, "Append", d.Append("000", []byte("x")), api.ErrFull)
	great := slices.Repeat([]int{math.MaxInt}, 100)
	d.Crash(great)
	named(t, d, many(api.MaxFiles), nil)
	for _, name := range many(api.MaxFiles) {
		if b, _ := d.Sure(name); len(b) != api.MaxFile {
			t.Errorf("%s: %d bytes", name, len(b))
		}
	}
}

// Of many changes of one file, none of them synced, each stays by its number.
func TestManyChanges(t *testing.T) {
	d := disk.New()
	for i := range 3000 {
		is(t, "Replace", d.Replace("a", []byte(fmt.Sprint(i))), api.OK)
		is(t, "Append", d.Append("a", []byte("+")), api.OK)
		is(t, "Remove", d.Remove("a"), api.OK)
	}
	for _, i := range []int{0, 1, 2, 1000, 2998, 2999} {
		for n, want := range []string{"", fmt.Sprint(i), fmt.Sprint(i) + "+", ""} {
			c := d.Copy()
			c.Crash([]int{3*i + n})
			if b, ok := c.Read("a"); string(b) != want || ok != (want != "") {
				t.Errorf("Crash(%d): %q, %v; want %q", 3*i+n, b, ok, want)
			}
		}
	}
}

// P9.1 to P9.4, P1: changes and crashes as bytes tell them, two bytes a step.
func FuzzDisk(f *testing.F) {
	f.Add([]byte{})
	f.Add([]byte{0, 2, 3, 0, 0, 2, 4, 1})
	f.Add([]byte{1, 1, 0, 1, 4, 0, 4, 9})
	f.Add([]byte{0, 9, 2, 0, 0, 9, 3, 0, 2, 0, 3, 0, 4, 255})
	f.Fuzz(func(t *testing.T, b []byte) {
		d, m := disk.New(), model{}
		names := []string{"a", "aa", "b", "", strings.Repeat("c", 65), "log.00000001", strings.Repeat("c", 64)}
		for i := 0; i+1 < min(len(b), 200); i += 2 {
			n := int(b[i+1])
			name, text := names[int(b[i]/5)%len(names)], "0123456789"[:n%11]
			switch b[i] % 5 {
			case 4:
				stay := []int{n % 16, n/16 - 1, n%7 - 1}
				ends(t, b, d, stay)
				d.Crash(stay)
				m.crash(stay)
				same(t, b, d, m)
			default:
				steps(t, d, m, step{[]string{"Append", "Replace", "Remove", "Sync"}[b[i]%5], name, text})
			}
		}
		torn(t, b, d, m, 1, 2, 3)
	})
}
