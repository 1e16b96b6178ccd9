package wal_test

import (
	"bytes"
	"encoding/binary"
	"fmt"
	"hash/crc32"
	"math"
	"math/rand/v2"
	"regexp"
	"slices"
	"strings"
	"testing"

	"ringer/api"
	"ringer/disk"
	"ringer/wal"
)

const last = math.MaxUint64 // the greatest Index and Term

// recorded is an entry's record, word for word as the chapter tells it; also of one that may be none.
func recorded(e api.Entry) []byte {
	b := binary.AppendUvarint(nil, e.Index)
	b = binary.AppendUvarint(b, e.Term)
	b = binary.AppendUvarint(b, uint64(len(e.Body)))
	return append(b, e.Body...)
}

// framed is a record's frame, word for word as layer 3 tells it.
func framed(record []byte) []byte {
	text := append(binary.AppendUvarint(nil, uint64(len(record))), record...)
	c := crc32.Checksum(text, crc32.MakeTable(crc32.Castagnoli))
	return binary.LittleEndian.AppendUint32(append([]byte{90}, text...), (c>>15|c<<17)+2726488792)
}

// frames are entries' records as frames, one behind the other.
func frames(l ...api.Entry) (b []byte) {
	for _, e := range l {
		b = append(b, framed(recorded(e))...)
	}
	return b
}

// unframed is the record whose frame b begins with, and how many bytes that has; 0, if there is none.
func unframed(b []byte) ([]byte, int) {
	if len(b) < 6 {
		return nil, 0
	}
	n, at := binary.Uvarint(b[1:])
	if at <= 0 || n > 4096 || int(n) > len(b)-1-at {
		return nil, 0
	}
	record := b[1+at : 1+at+int(n)]
	if f := framed(record); bytes.HasPrefix(b, f) {
		return record, len(f)
	}
	return nil, 0
}

// entered is the entry of a record, if it is one's: what is read is one's, if its own record is just that.
func entered(b []byte) (e api.Entry, ok bool) {
	index, i := binary.Uvarint(b)
	if i <= 0 {
		return e, false
	}
	term, j := binary.Uvarint(b[i:])
	if j <= 0 {
		return e, false
	}
	_, k := binary.Uvarint(b[i+j:])
	if k <= 0 {
		return e, false
	}
	e = api.Entry{Index: index, Term: term, Body: b[i+j+k:]}
	if index == 0 || len(e.Body) > 2000 || !bytes.Equal(recorded(e), b) {
		return api.Entry{}, false
	}
	return e, true
}

// behind are entries with one more behind, and whether it is good there.
func behind(l []api.Entry, e api.Entry) ([]api.Entry, bool) {
	if len(l) == 0 {
		return []api.Entry{e}, e.Index > 0
	}
	end := l[len(l)-1].Index
	if e.Index == 0 || end == last || e.Index > end && e.Index-end > 1 {
		return l, false
	}
	at := slices.IndexFunc(l, func(o api.Entry) bool { return o.Index == e.Index })
	if e.Index > end {
		at = len(l)
	}
	return append(slices.Clone(l[:max(at, 0)]), e), true
}

var segmentName = regexp.MustCompile(`^log\.[0-9]{8}$`)

func isSegment(name string) bool {
	return segmentName.MatchString(name) && !strings.HasSuffix(name, "00000000")
}

func named(number int) string { return fmt.Sprintf("log.%08d", number) }

// part is what is good of a segment.
type part struct {
	name string
	good int
	list []api.Entry
}

// told are the segments of a disk and its entries, word for word as the chapter tells them.
func told(d *disk.Disk) (parts []part, entries []api.Entry) {
	good := true
	for _, name := range d.Names() {
		if !isSegment(name) {
			continue
		}
		b, _ := d.Read(name)
		p := part{name: name}
		for good && p.good < len(b) {
			record, n := unframed(b[p.good:])
			e, ok := entered(record)
			if ok {
				entries, ok = behind(entries, e)
			}
			if good = ok; ok {
				p.good += n
				p.list = append(p.list, e)
			}
		}
		good = good && len(p.list) > 0
		parts = append(parts, p)
	}
	return parts, entries
}

// both are a log, its disk, and a disk on which the same is done as the chapter's words tell it.
type both struct {
	w       *wal.Wal
	d, twin *disk.Disk
}

// open opens the log of a disk.
func open(t *testing.T, d *disk.Disk) *both {
	t.Helper()
	b := &both{d: d, twin: d.Copy()}
	b.again(t)
	return b
}

func (b *both) again(t *testing.T) {
	t.Helper()
	w, e := wal.Open(b.d)
	if w == nil || e != api.OK {
		t.Fatalf("Open: %v, %d", w, e)
	}
	b.w = w
	parts, _ := told(b.twin)
	for _, p := range parts {
		was, _ := b.twin.Read(p.name)
		switch {
		case p.good == 0:
			b.twin.Remove(p.name)
		case p.good < len(was):
			b.twin.Replace(p.name, was[:p.good])
		default:
			continue
		}
		b.twin.Sync(p.name)
	}
	b.alike(t, "Open")
}

func (b *both) append(t *testing.T, l ...api.Entry) api.Errno {
	t.Helper()
	e := b.w.Append(l)
	if want := b.onTwin(l); e != want {
		t.Fatalf("Append(%s): %d; want %d", text(l), e, want)
	}
	b.alike(t, "Append("+text(l)+")")
	return e
}

func (b *both) onTwin(l []api.Entry) api.Errno {
	parts, entries := told(b.twin)
	for _, e := range l {
		var ok bool
		if entries, ok = behind(entries, e); !ok {
			return api.ErrArg
		}
	}
	if slices.ContainsFunc(l, func(e api.Entry) bool { return len(e.Body) > 2000 }) {
		return api.ErrLong
	}
	number, records := 0, 8
	if len(parts) > 0 {
		p := parts[len(parts)-1]
		fmt.Sscanf(p.name, "log.%d", &number)
		records = len(p.list)
	}
	for _, e := range l {
		if records >= 8 {
			if number > 0 {
				b.twin.Sync(named(number))
			}
			if number == 99999999 {
				return api.ErrFull
			}
			number, records = number+1, 0
		}
		if b.twin.Append(named(number), frames(e)) != api.OK {
			return api.ErrFull
		}
		records++
	}
	return api.OK
}

func (b *both) sync(t *testing.T) {
	t.Helper()
	is(t, "Sync", b.w.Sync(), api.OK)
	for _, name := range b.twin.Loose() {
		if isSegment(name) {
			b.twin.Sync(name)
		}
	}
	b.alike(t, "Sync")
}

func (b *both) compact(t *testing.T, index uint64) {
	t.Helper()
	is(t, "Compact", b.w.Compact(index), api.OK)
	parts, _ := told(b.twin)
	for len(parts) > 1 && !slices.ContainsFunc(parts[0].list, func(e api.Entry) bool { return e.Index > index }) {
		b.twin.Remove(parts[0].name)
		b.twin.Sync(parts[0].name)
		parts = parts[1:]
	}
	b.alike(t, fmt.Sprintf("Compact(%d)", index))
}

func (b *both) crash(t *testing.T, stay ...int) {
	t.Helper()
	b.d.Crash(stay)
	b.twin.Crash(stay)
	b.again(t)
}

// alike fails unless both disks stand the same, with the same loose parts, and the entries are the disk's.
func (b *both) alike(t *testing.T, what string) {
	t.Helper()
	stand(t, what, b.d, b.twin)
	for n := range 3 {
		torn(t, what, b.d, b.twin, n, n)
	}
	torn(t, what, b.d, b.twin, 30, 2)
	torn(t, what, b.d, b.twin, 2, 30, math.MaxInt)
	torn(t, what, b.d, b.twin, slices.Repeat([]int{1 << 21}, len(b.d.Loose()))...)
	_, want := told(b.twin)
	same(t, what, b.w.Entries(), want)
}

// torn fails unless copies of both disks that crash so stand the same.
func torn(t *testing.T, what string, d, twin *disk.Disk, stay ...int) {
	t.Helper()
	d, twin = d.Copy(), twin.Copy()
	d.Crash(stay)
	twin.Crash(stay)
	stand(t, fmt.Sprint(what, "; Crash", stay), d, twin)
}

// stand fails unless a disk stands as another one does.
func stand(t *testing.T, what string, d, twin *disk.Disk) {
	t.Helper()
	if got, want := d.Names(), twin.Names(); !slices.Equal(got, want) {
		t.Fatalf("%s: Names: %q; want %q", what, got, want)
	}
	if got, want := d.Loose(), twin.Loose(); !slices.Equal(got, want) {
		t.Fatalf("%s: Loose: %q; want %q", what, got, want)
	}
	for _, name := range slices.Concat(twin.Names(), twin.Loose()) {
		got, _ := d.Read(name)
		if want, _ := twin.Read(name); !bytes.Equal(got, want) {
			t.Fatalf("%s: Read(%q): %.60x (%d bytes); want %.60x (%d bytes)", what, name, got, len(got), want, len(want))
		}
		got, there := d.Sure(name)
		if want, ok := twin.Sure(name); !bytes.Equal(got, want) || there != ok {
			t.Fatalf("%s: Sure(%q): %.60x (%d bytes), %v; want %.60x (%d bytes), %v", what, name, got, len(got), there, want, len(want), ok)
		}
	}
}

// same fails unless entries are those.
func same(t *testing.T, what string, got, want []api.Entry) {
	t.Helper()
	if !slices.EqualFunc(got, want, equal) {
		t.Fatalf("%s: the entries %s; want %s", what, text(got), text(want))
	}
}

func equal(a, b api.Entry) bool {
	return a.Index == b.Index && a.Term == b.Term && string(a.Body) == string(b.Body)
}

// is fails unless a call tells want.
func is(t *testing.T, what string, e, want api.Errno) {
	t.Helper()
	if e != want {
		t.Fatalf("%s: %d; want %d", what, e, want)
	}
}

func text(l []api.Entry) string {
	var s []string
	for _, e := range l {
		s = append(s, fmt.Sprintf("%d/%d/%d:%.4x", e.Index, e.Term, len(e.Body), e.Body))
	}
	return strings.Join(s, " ")
}

// entry has an Index and a Term, and a Body that tells both.
func entry(index, term uint64) api.Entry {
	return api.Entry{Index: index, Term: term, Body: fmt.Append(nil, index, "of", term)}
}

// row are entries of a term, from one Index on up to another one.
func row(term, from, to uint64) (l []api.Entry) {
	for i := from; i <= to; i++ {
		l = append(l, entry(i, term))
	}
	return l
}

// of are entries with those indexes, one term behind the other.
func of(indexes ...uint64) (l []api.Entry) {
	for i, index := range indexes {
		l = append(l, entry(index, uint64(i+1)))
	}
	return l
}

// random are n bytes, always the same ones of one n.
func random(n int) []byte {
	r := rand.New(rand.NewPCG(10, uint64(n)))
	b := make([]byte, n)
	for i := range b {
		b[i] = byte(r.Uint32())
	}
	return b
}

// sure writes a file, and syncs it.
func sure(t *testing.T, d *disk.Disk, name string, b []byte) {
	t.Helper()
	is(t, "Replace", d.Replace(name, b), api.OK)
	is(t, "disk.Sync", d.Sync(name), api.OK)
}

// The chapter's examples.
func TestExamples(t *testing.T) {
	b := open(t, disk.New())
	l := append(row(1, 1, 3), entry(2, 2))
	is(t, "Append", b.append(t, l...), api.OK)
	same(t, "Entries", b.w.Entries(), []api.Entry{l[0], l[3]})
	is(t, "Append", b.append(t, entry(5, 2)), api.ErrArg)
	is(t, "Compact", b.w.Compact(9), api.OK)
	same(t, "Entries", b.w.Entries(), []api.Entry{l[0], l[3]})
}

// The chapter's words ahead of the promises: of nil, and of a log that Open did not make, nothing is told.
func TestNoWal(t *testing.T) {
	for i, w := range []*wal.Wal{nil, {}, new(wal.Wal)} {
		for range 2 {
			for _, l := range [][]api.Entry{nil, {}, {{}}, row(1, 1, 9), {{Index: 1, Body: make([]byte, 2001)}}} {
				is(t, "Append", w.Append(l), api.ErrNil)
			}
			is(t, "Sync", w.Sync(), api.ErrNil)
			for _, index := range []uint64{0, 1, last} {
				is(t, "Compact", w.Compact(index), api.ErrNil)
			}
			if l := w.Entries(); l != nil {
				t.Errorf("%d: Entries: %s", i, text(l))
			}
		}
	}
}

// P10.2: there is no log without a disk.
func TestNoDisk(t *testing.T) {
	for i, d := range []*disk.Disk{nil, {}, new(disk.Disk)} {
		if w, e := wal.Open(d); w != nil || e != api.ErrNil {
			t.Errorf("%d: Open: %v, %d", i, w, e)
		}
	}
}

// numbers are those whose bytes are as few, and as many, as they can be.
var numbers = []uint64{0, 1, 2, 127, 128, 300, 1<<14 - 1, 1 << 14, 1<<32 - 1, 1<<63 - 1, 1 << 63, last - 1, last}

// lengths are of bodies.
var lengths = []int{0, 1, 2, 127, 128, 1999, 2000}

// P10.1: Record is the numbers and the text, Parse is the entry again.
func TestRecord(t *testing.T) {
	for _, index := range numbers[1:] {
		for _, term := range numbers {
			for _, n := range lengths {
				e := api.Entry{Index: index, Term: term, Body: random(n)}
				b, errno := wal.Record(e)
				if want := recorded(e); errno != api.OK || !bytes.Equal(b, want) {
					t.Fatalf("Record(%s): %.30x, %d; want %.30x", text([]api.Entry{e}), b, errno, want)
				}
				if got, errno := wal.Parse(b); errno != api.OK || !equal(got, e) {
					t.Fatalf("Parse(%.30x): %s, %d; want %s", b, text([]api.Entry{got}), errno, text([]api.Entry{e}))
				}
			}
		}
	}
	for _, body := range [][]byte{nil, {}} {
		if b, errno := wal.Record(api.Entry{Index: 300, Term: 2, Body: body}); errno != api.OK || string(b) != "\xac\x02\x02\x00" {
			t.Errorf("Record, of a Body %#v: %x, %d", body, b, errno)
		}
	}
}

// P10.1: Record refuses an Index 0, then a Body that is too long.
func TestRecordRefuses(t *testing.T) {
	for _, index := range numbers {
		for _, n := range []int{0, 1, 2000, 2001, 2002, 4096, 4097, 1 << 20} {
			want := api.OK
			switch {
			case index == 0:
				want = api.ErrArg
			case n > 2000:
				want = api.ErrLong
			}
			b, errno := wal.Record(api.Entry{Index: index, Term: 3, Body: make([]byte, n)})
			if errno != want || want != api.OK && b != nil {
				t.Errorf("Record, of the Index %d and %d bytes: %.9x, %d; want %d", index, n, b, errno, want)
			}
		}
	}
}

// parses fails unless Parse tells of b what the chapter's words do.
func parses(t *testing.T, b []byte) {
	t.Helper()
	want, ok := entered(b)
	got, errno := wal.Parse(b)
	if !equal(got, want) || ok != (errno == api.OK) || !ok && (errno != api.ErrBytes || got.Body != nil) {
		t.Fatalf("Parse(%.30x), of %d bytes: %s, %d; want %s, %v", b, len(b), text([]api.Entry{got}), errno, text([]api.Entry{want}), ok)
	}
}

// refused fails unless Parse tells ErrBytes.
func refused(t *testing.T, b []byte) {
	t.Helper()
	if got, errno := wal.Parse(b); errno != api.ErrBytes || got.Index != 0 || got.Term != 0 || got.Body != nil {
		t.Fatalf("Parse(%.30x), of %d bytes: %s, %d; want none", b, len(b), text([]api.Entry{got}), errno)
	}
}

// P10.1: what is cut, or has more behind, or is another record, is none, or that one.
func TestParse(t *testing.T) {
	refused(t, nil)
	refused(t, []byte{})
	for _, e := range []api.Entry{{Index: 1}, {Index: 1, Body: []byte{0}}, entry(2, 3), entry(300, 1<<14), entry(last, last), {Index: 9, Term: 1, Body: random(200)}, {Index: last, Term: 0, Body: random(2000)}} {
		b := recorded(e)
		parses(t, b)
		for i := range b {
			refused(t, b[:i])
		}
		for _, more := range []byte{0, 1, 128, 255} {
			refused(t, append(slices.Clone(b), more))
		}
		for i := range min(len(b), 40) {
			for c := range 256 {
				other := slices.Clone(b)
				other[i] = byte(c)
				parses(t, other)
			}
		}
		parses(t, slices.Concat(b, b))
		parses(t, framed(b))
	}
}

// P10.1: there is no entry with an Index 0, none with a Body that is too long, and none whose numbers are not written shortest.
func TestParseRefuses(t *testing.T) {
	for _, n := range []int{0, 1, 2000, 2001, 4097} {
		for _, term := range numbers {
			refused(t, recorded(api.Entry{Term: term, Body: make([]byte, n)}))
		}
	}
	for _, n := range []int{2001, 2002, 4095, 4096, 4097, 1 << 16} {
		refused(t, recorded(api.Entry{Index: 1, Term: 1, Body: make([]byte, n)}))
	}
	long := strings.Repeat("\xff", 9)
	for _, s := range []string{
		"\x81\x00\x01\x00", "\x01\x81\x00\x00", "\x01\x01\x80\x00", "\x01\x01\x81\x00a", "\x80\x00\x01\x00", "\x80\x00", "\x80", "\x01\x80\x00\x00",
		long + "\x02\x01\x00", "\x01" + long + "\x02\x00", "\x01\x01" + long + "\x01", long + "\x80\x00\x01\x00", long + "\xff\x01\x01\x00",
		"\x02\x80\x00", "\x03\x80\x80\x00", "\x80\x01\x80", "\x01\x01\x02a", "\x01\x01\x01ab", "\x01\x01", "\x01", "\x01\x01\x00\x00",
	} {
		refused(t, []byte(s))
		parses(t, []byte(s))
	}
	refused(t, bytes.Repeat([]byte{255}, 5000))
	refused(t, make([]byte, 5000))
}

// P10.1: Same asks for all three, and none and an empty Body are one.
func TestSame(t *testing.T) {
	l := []api.Entry{{}, {Index: 1}, {Term: 1}, {Index: 1, Term: 1}, {Index: last, Term: last}, {Index: 1, Term: last}}
	for _, body := range [][]byte{{}, {0}, {1}, {0, 0}, []byte("a"), []byte("ab"), random(2000), random(2001)} {
		l = append(l, api.Entry{Body: body}, api.Entry{Index: 1, Term: 1, Body: body}, api.Entry{Index: 2, Term: 1, Body: slices.Clone(body)}, api.Entry{Index: 1, Term: 2, Body: body})
	}
	for i, a := range l {
		for j, b := range l {
			if got, want := wal.Same(a, b), equal(a, b); got != want {
				t.Errorf("Same(%d: %s, %d: %s): %v", i, text([]api.Entry{a}), j, text([]api.Entry{b}), got)
			}
		}
	}
	if !wal.Same(api.Entry{Index: 1, Body: nil}, api.Entry{Index: 1, Body: []byte{}}) {
		t.Error("Same, of no Body and an empty one: false")
	}
}

// P10.2: a disk without files has no entries, and nothing is done to it.
func TestOpenEmpty(t *testing.T) {
	b := open(t, disk.New())
	if l := b.d.Loose(); l != nil {
		t.Errorf("Loose: %q", l)
	}
	b.sync(t)
	b.compact(t, 0)
	b.compact(t, last)
	is(t, "Append", b.append(t), api.OK)
	if l := b.d.Names(); l != nil {
		t.Errorf("Names: %q", l)
	}
}

// strange are names that are no segment's.
var strange = []string{
	"log", "log.", "log.1", "log.0000001", "log.000000001", "log.0000000001", "log.00000000", "log.000000000", "log.100000000", "log.00000001.", "log.00000001 ",
	"log.0000000a", "log.0000000A", "log.a0000001", "log.+0000001", "log.-0000001", "log. 0000001", "log.0000001 ", "log.0000_001", "log.0x000001", "log.0b000001", "log.1e000000", "log.0000000\x00", "log.0000.001",
	"log.٠٠٠١", "LOG.00000001", "Log.00000001", "log-00000001", "log00000001", "xlog.00000001", " log.00000001", "log..00000001", "log.log.00000001", "00000001", "000000000001", "lo", "lof.00000001", "log/00000001", ".00000001",
	"vote", "shot", "token", "a", strings.Repeat("log.", 16),
}

// P10.2, P10.3: files whose names are no segment's stand as they did, with what is loose of them.
func TestStrangeNames(t *testing.T) {
	for _, content := range [][]byte{nil, []byte("no log"), frames(row(1, 1, 9)...)} {
		d := disk.New()
		for i, name := range strange {
			is(t, "disk.Append", d.Append(name, content), api.OK)
			switch i % 4 {
			case 0:
				is(t, "disk.Sync", d.Sync(name), api.OK)
			case 1:
				is(t, "disk.Sync", d.Sync(name), api.OK)
				is(t, "disk.Append", d.Append(name, []byte("loose")), api.OK)
			case 2:
				is(t, "disk.Sync", d.Sync(name), api.OK)
				is(t, "disk.Remove", d.Remove(name), api.OK)
			}
		}
		b := open(t, d)
		stood := d.Copy()
		same(t, "Entries", b.w.Entries(), nil)
		is(t, "Append", b.append(t, row(1, 5, 22)...), api.OK)
		b.compact(t, 13)
		b.sync(t)
		b.again(t)
		same(t, "Entries", b.w.Entries(), row(1, 13, 22))
		for _, number := range []int{2, 3} {
			is(t, "disk.Remove", d.Remove(named(number)), api.OK)
			is(t, "disk.Sync", d.Sync(named(number)), api.OK)
		}
		stand(t, "all others", d, stood)
	}
}

// P10.2: one segment's name after the other, at the ends of all numbers.
func TestSegmentNames(t *testing.T) {
	numbers := []int{1, 2, 9, 10, 11, 99, 100, 12345678, 87654321, 99999998, 99999999}
	for _, number := range numbers {
		d := disk.New()
		sure(t, d, named(number), frames(entry(7, 1)))
		b := open(t, d)
		same(t, named(number), b.w.Entries(), of(7))
		is(t, "Append", b.append(t, entry(8, 1)), api.OK)
	}
	d := disk.New()
	for i, number := range numbers {
		sure(t, d, named(number), frames(entry(uint64(i+1), 1)))
	}
	b := open(t, d)
	same(t, "all", b.w.Entries(), row(1, 1, uint64(len(numbers))))
}

// damages are what may stand in a segment that is to bear the entries from an Index on up to another one.
func damages(from, to uint64) map[string][]byte {
	good := frames(row(1, from, to)...)
	one := frames(entry(from, 1))
	spoilt := slices.Clone(good)
	spoilt[len(one)+5] ^= 4
	first := slices.Clone(good)
	first[2] ^= 1
	end := slices.Clone(good)
	end[len(end)-1] ^= 128
	next := entry(to+1, 1)
	return map[string][]byte{
		"good":                      good,
		"one":                       one,
		"none":                      {},
		"no frames":                 []byte("no frames at all"),
		"zeros":                     make([]byte, 40),
		"marks":                     bytes.Repeat([]byte{90}, 40),
		"torn at first":             one[:len(one)-1],
		"torn to a byte":            one[:1],
		"torn within":               good[:len(good)-len(frames(entry(to, 1)))/2],
		"torn at the end":           good[:len(good)-1],
		"spoilt within":             spoilt,
		"spoilt at first":           first,
		"spoilt at the end":         end,
		"a byte behind":             append(slices.Clone(good), 90),
		"a half behind":             append(slices.Clone(good), frames(next)[:5]...),
		"a frame of nothing behind": append(slices.Clone(good), framed(nil)...),
		"a frame of nothing":        append(framed(nil), good...),
		"a frame of words":          append(framed([]byte("no record")), good...),
		"a frame of words behind":   slices.Concat(good, framed([]byte("no record")), frames(next)),
		"a record with more":        slices.Concat(good, framed(append(recorded(next), 0)), frames(next)),
		"an Index 0":                slices.Concat(good, frames(api.Entry{Term: 1}, next)),
		"an Index 0 at first":       append(frames(api.Entry{Term: 1}), good...),
		"a Body too long":           slices.Concat(good, frames(api.Entry{Index: to + 1, Term: 1, Body: make([]byte, 2001)}), frames(next)),
		"a number too long":         slices.Concat(good, framed([]byte{byte(to + 1), 0x81, 0, 0}), frames(next)),
		"a leap of two":             slices.Concat(good, frames(entry(to+2, 1), next)),
		"a leap at first":           frames(row(1, from+1, to)...),
		"a leap to the last":        slices.Concat(good, frames(entry(last, 1))),
		"the same":                  slices.Concat(good, frames(entry(to, 2))),
		"one back":                  slices.Concat(good, frames(entry(to-1, 2), entry(to, 3))),
		"back to the first":         slices.Concat(good, frames(entry(1, 2))),
		"many":                      append(slices.Clone(good), frames(row(1, to+1, to+9)...)...),
		"the full Body":             frames(api.Entry{Index: from, Term: last, Body: random(2000)}, api.Entry{Index: from + 1}),
	}
}

// P10.2: whatever is not good, as the first segment, in the midst, as the last, is cut off, with all behind it.
func TestOpenDamaged(t *testing.T) {
	for _, numbers := range [][]int{{1, 2, 3, 4}, {3, 7, 8, 99999999}} {
		for at := range 4 {
			for what, content := range damages(uint64(3*at+1), uint64(3*at+3)) {
				for kind := range 3 {
					damaged(t, fmt.Sprintf("%s in %s, %d", what, named(numbers[at]), kind), numbers, at, content, kind)
				}
			}
		}
	}
}

// damaged opens a log of 4 segments, one of which has another content; what is loose is told by the kind.
func damaged(t *testing.T, what string, numbers []int, at int, content []byte, kind int) {
	t.Helper()
	d := disk.New()
	sure(t, d, "log.0", []byte("beside"))
	is(t, "Append", d.Append("log.0", []byte("loose")), api.OK)
	for i, number := range numbers {
		b := frames(row(1, uint64(3*i+1), uint64(3*i+3))...)
		if i == at {
			b = content
		}
		is(t, "disk.Append", d.Append(named(number), b), api.OK)
		if kind == 0 || kind == 1 && i != at {
			is(t, "disk.Sync", d.Sync(named(number)), api.OK)
		}
	}
	b := open(t, d)
	if t.Failed() {
		t.Fatal(what)
	}
	again := d.Copy()
	b.again(t)
	stand(t, what+", opened again", d, again)
	if kind == 0 && !slices.Equal(d.Loose(), []string{"log.0"}) {
		t.Fatalf("%s: Loose: %q", what, d.Loose())
	}
	d.Crash(nil)
	b.twin.Crash(nil)
	b.again(t)
	l := b.w.Entries()
	next := uint64(4)
	if len(l) > 0 && l[len(l)-1].Index < last {
		next = l[len(l)-1].Index + 1
	}
	b.append(t, row(9, next, next+9)...)
	b.again(t)
}

// P10.2: of segments without good records nothing is left, whichever of them have bytes.
func TestOpenNothing(t *testing.T) {
	for _, content := range []string{"", "a", "\x5a", "no records here"} {
		d := disk.New()
		for i := range 5 {
			sure(t, d, named(1+3*i), []byte(content))
		}
		sure(t, d, "vote", []byte(content))
		b := open(t, d)
		if names, loose := d.Names(), d.Loose(); !slices.Equal(names, []string{"vote"}) || loose != nil {
			t.Fatalf("of %q: Names %q, Loose %q", content, names, loose)
		}
		is(t, "Append", b.append(t, entry(44, 1)), api.OK)
		if _, ok := d.Read(named(1)); !ok {
			t.Fatalf("of %q: Names %q", content, d.Names())
		}
	}
}

// P10.2, P10.3: a segment may have more records than a full one; it is full, then.
func TestOpenMany(t *testing.T) {
	for _, n := range []uint64{7, 8, 9, 16, 17, 500} {
		d := disk.New()
		is(t, "disk.Append", d.Append(named(3), frames(row(2, 1, n)...)), api.OK)
		b := open(t, d)
		same(t, "Entries", b.w.Entries(), row(2, 1, n))
		is(t, "Append", b.append(t, entry(n+1, 2)), api.OK)
		want := []string{named(3)}
		if n >= 8 {
			want = []string{named(3), named(4)}
		}
		if names, loose := d.Names(), d.Loose(); !slices.Equal(names, want) || !slices.Equal(loose, want[len(want)-1:]) {
			t.Fatalf("of %d: Names %q, Loose %q", n, names, loose)
		}
	}
}

// P10.2, P10.3: all short rows of indexes, in one segment and in two: what Open reads, and what Append takes.
func TestIndexes(t *testing.T) {
	indexes := []uint64{0, 1, 2, 3, 4, last - 1, last}
	rows := [][]uint64{nil}
	for i := 0; i < len(rows); i++ {
		for _, index := range indexes {
			if len(rows[i]) < 4 {
				rows = append(rows, append(slices.Clone(rows[i]), index))
			}
		}
	}
	for i, l := range rows {
		d := disk.New()
		cut := i % (len(l) + 1)
		sure(t, d, named(1), frames(of(l...)[:cut]...))
		sure(t, d, named(2), frames(of(l...)[cut:]...))
		open(t, d)
		b := open(t, disk.New())
		b.append(t, of(l...)[:cut]...)
		b.append(t, of(l...)[cut:]...)
	}
}

// P10.2: an entry that goes back ahead of all is the first one; behind the greatest Index there is none.
func TestGoesBack(t *testing.T) {
	for _, x := range []struct{ indexes, want []uint64 }{
		{[]uint64{5, 6, 7, 3}, []uint64{3}},
		{[]uint64{5, 6, 7, 3, 4}, []uint64{3, 4}},
		{[]uint64{5, 6, 7, 5}, []uint64{5}},
		{[]uint64{5, 6, 7, 6}, []uint64{5, 6}},
		{[]uint64{5, 6, 7, 7}, []uint64{5, 6, 7}},
		{[]uint64{5, 6, 7, 8}, []uint64{5, 6, 7, 8}},
		{[]uint64{5, 6, 7, 9}, []uint64{5, 6, 7}},
		{[]uint64{5, 6, 7, 1, 2, 9}, []uint64{1, 2}},
		{[]uint64{5, 1, 3}, []uint64{1}},
		{[]uint64{last, last}, []uint64{last}},
		{[]uint64{last, 1}, []uint64{last}},
		{[]uint64{last - 1, last, 1}, []uint64{last - 1, last}},
		{[]uint64{last - 1, last - 1, 1}, []uint64{1}},
		{[]uint64{1, last}, []uint64{1}},
	} {
		d := disk.New()
		sure(t, d, named(1), frames(of(x.indexes...)...))
		b := open(t, d)
		var got []uint64
		for _, e := range b.w.Entries() {
			got = append(got, e.Index)
		}
		if !slices.Equal(got, x.want) {
			t.Errorf("%d: the indexes %d; want %d", x.indexes, got, x.want)
		}
	}
}

// P10.3: a call that refuses, changes nothing, whichever entry it is; ErrArg is ahead of ErrLong.
func TestAppendRefuses(t *testing.T) {
	long := make([]byte, 2001)
	for _, x := range []struct {
		l    []api.Entry
		want api.Errno
	}{
		{nil, api.OK},
		{[]api.Entry{}, api.OK},
		{of(0), api.ErrArg},
		{of(4), api.OK},
		{of(5), api.ErrArg},
		{of(3), api.OK},
		{of(2), api.OK},
		{of(1), api.OK},
		{of(last), api.ErrArg},
		{of(4, 5, 6, 8), api.ErrArg},
		{of(4, 5, 6, 0), api.ErrArg},
		{of(1, 3), api.ErrArg},
		{of(1, 2, 3, 4), api.OK},
		{[]api.Entry{{Index: 4, Body: long}}, api.ErrLong},
		{[]api.Entry{{Index: 4, Body: long[1:]}}, api.OK},
		{[]api.Entry{{Index: 0, Body: long}}, api.ErrArg},
		{[]api.Entry{{Index: 5, Body: long}}, api.ErrArg},
		{[]api.Entry{{Index: 4}, {Index: 5}, {Index: 6, Body: long}, {Index: 7}}, api.ErrLong},
		{[]api.Entry{{Index: 4, Body: long}, {Index: 6}}, api.ErrArg},
		{[]api.Entry{{Index: 6}, {Index: 4, Body: long}}, api.ErrArg},
		{append(row(1, 4, 30), api.Entry{Index: 31, Body: long}), api.ErrLong},
		{append(row(1, 4, 30), entry(32, 1)), api.ErrArg},
		{append([]api.Entry{{Index: 4, Body: long}}, append(row(1, 5, 30), entry(32, 1))...), api.ErrArg},
	} {
		for _, full := range []bool{false, true} {
			b := open(t, disk.New())
			if full {
				b.append(t, append(row(1, 1, 3), row(2, 1, 2)...)...)
			}
			is(t, "Append", b.append(t, row(2, 1, 3)...), api.OK)
			was := b.d.Copy()
			is(t, "Append("+text(x.l)+")", b.append(t, x.l...), x.want)
			if x.want != api.OK {
				stand(t, "Append("+text(x.l)+")", b.d, was)
			}
		}
	}
}

// P10.3: of a log without entries the first Index is anything from 1 on; behind the greatest one nothing may come.
func TestAppendFirst(t *testing.T) {
	for _, index := range numbers {
		b := open(t, disk.New())
		if e := b.append(t, entry(index, 1)); (e == api.OK) != (index > 0) {
			t.Errorf("Append of %d: %d", index, e)
		}
	}
	b := open(t, disk.New())
	is(t, "Append", b.append(t, of(last-1, last, last)...), api.ErrArg)
	is(t, "Append", b.append(t, of(last-1, last, 1)...), api.ErrArg)
	is(t, "Append", b.append(t, of(last-1, last)...), api.OK)
	for _, index := range numbers {
		is(t, "Append", b.append(t, entry(index, 1)), api.ErrArg)
	}
	is(t, "Append", b.append(t), api.OK)
}

// P10.3: 8 records fill a segment; it is synced ahead of a new one, and no earlier.
func TestSegments(t *testing.T) {
	for _, n := range []uint64{1, 7, 8, 9, 15, 16, 17, 24, 25} {
		one, whole := open(t, disk.New()), open(t, disk.New())
		for i := range n {
			is(t, "Append", one.append(t, entry(i+1, 1)), api.OK)
		}
		is(t, "Append", whole.append(t, row(1, 1, n)...), api.OK)
		stand(t, fmt.Sprint(n, ", one by one"), one.d, whole.d)
		segments := int(n+7) / 8
		for i := range segments {
			b, _ := one.d.Read(named(i + 1))
			if want := frames(row(1, uint64(8*i+1), min(n, uint64(8*i+8)))...); !bytes.Equal(b, want) {
				t.Fatalf("%d: %s has %d bytes; want %d", n, named(i+1), len(b), len(want))
			}
		}
		if names, loose := one.d.Names(), one.d.Loose(); len(names) != segments || !slices.Equal(loose, names[segments-1:]) {
			t.Fatalf("%d: Names %q, Loose %q", n, names, loose)
		}
	}
}

// P10.3: entries that go back go behind in the last segment, too.
func TestAppendBack(t *testing.T) {
	b := open(t, disk.New())
	is(t, "Append", b.append(t, row(1, 1, 6)...), api.OK)
	is(t, "Append", b.append(t, row(2, 2, 5)...), api.OK)
	is(t, "Append", b.append(t, row(3, 1, 1)...), api.OK)
	same(t, "Entries", b.w.Entries(), row(3, 1, 1))
	if l := b.d.Names(); len(l) != 2 {
		t.Errorf("Names: %q", l)
	}
	is(t, "Append", b.append(t, entry(3, 4)), api.ErrArg)
	is(t, "Append", b.append(t, entry(2, 4)), api.OK)
	same(t, "Entries", b.w.Entries(), []api.Entry{entry(1, 3), entry(2, 4)})
}

// P10.3: where the disk has no room for a new segment, what was written then is written, and the full one is synced.
func TestFullDisk(t *testing.T) {
	for _, room := range []int{0, 1, 2, 64} {
		d := disk.New()
		for i := range api.MaxFiles - room {
			sure(t, d, fmt.Sprint("other", i), nil)
		}
		b := open(t, d)
		n := uint64(8 * room)
		is(t, "Append", b.append(t, row(1, 1, n+1)...), api.ErrFull)
		same(t, "Entries", b.w.Entries(), row(1, 1, n))
		if l := d.Loose(); l != nil {
			t.Fatalf("room for %d: Loose %q", room, l)
		}
		is(t, "Append", b.append(t, entry(n+1, 1)), api.ErrFull)
		is(t, "Append", b.append(t), api.OK)
		if room < 64 {
			is(t, "disk.Remove", d.Remove("other0"), api.OK)
			b.twin.Remove("other0")
			is(t, "Append", b.append(t, row(1, n+1, n+8)...), api.OK)
			is(t, "Append", b.append(t, entry(n+9, 1)), api.ErrFull)
		}
	}
}

// P10.3: what stands on the disk beside the log does not make the last segment full.
func TestFullDiskWithin(t *testing.T) {
	b := open(t, disk.New())
	is(t, "Append", b.append(t, row(1, 1, 5)...), api.OK)
	for i := range api.MaxFiles - 1 {
		sure(t, b.d, fmt.Sprint("other", i), nil)
		sure(t, b.twin, fmt.Sprint("other", i), nil)
	}
	is(t, "Append", b.append(t, row(1, 6, 7)...), api.OK)
	if l := b.d.Loose(); len(l) != 1 {
		t.Errorf("Loose: %q", l)
	}
	is(t, "Append", b.append(t, row(1, 8, 12)...), api.ErrFull)
	same(t, "Entries", b.w.Entries(), row(1, 1, 8))
	if l := b.d.Loose(); l != nil {
		t.Errorf("Loose: %q", l)
	}
}

// P10.3: there is no segment behind the number 99999999.
func TestLastNumber(t *testing.T) {
	for _, full := range []uint64{1, 7, 8} {
		d := disk.New()
		is(t, "disk.Append", d.Append(named(99999999), frames(row(1, 1, full)...)), api.OK)
		b := open(t, d)
		is(t, "Append", b.append(t, row(1, full+1, 12)...), api.ErrFull)
		same(t, "Entries", b.w.Entries(), row(1, 1, 8))
		if names, loose := d.Names(), d.Loose(); !slices.Equal(names, []string{named(99999999)}) || loose != nil {
			t.Fatalf("Names %q, Loose %q", names, loose)
		}
		is(t, "Append", b.append(t, entry(1, 2)), api.ErrFull)
	}
	d := disk.New()
	sure(t, d, named(99999998), frames(row(1, 1, 8)...))
	b := open(t, d)
	is(t, "Append", b.append(t, row(1, 9, 17)...), api.ErrFull)
	same(t, "Entries", b.w.Entries(), row(1, 1, 16))
}

// P10.3: Sync lets each segment be sure, and no other file.
func TestSync(t *testing.T) {
	b := open(t, disk.New())
	b.sync(t)
	is(t, "Append", b.append(t, row(1, 1, 3)...), api.OK)
	b.sync(t)
	b.sync(t)
	is(t, "Append", b.append(t, row(1, 4, 30)...), api.OK)
	for _, d := range []*disk.Disk{b.d, b.twin} {
		for _, name := range []string{named(1), named(2), "log.00000000", "log.1", "zlog", "a"} {
			is(t, "disk.Append", d.Append(name, nil), api.OK)
		}
	}
	b.alike(t, "more is loose")
	b.sync(t)
	if l := b.d.Loose(); !slices.Equal(l, []string{"a", "log.00000000", "log.1", "zlog"}) {
		t.Errorf("Loose: %q", l)
	}
	b.crash(t)
	same(t, "Entries", b.w.Entries(), row(1, 1, 30))
}

// P10.3: of a segment that is gone, that is loose.
func TestSyncGone(t *testing.T) {
	b := open(t, disk.New())
	is(t, "Append", b.append(t, row(1, 1, 20)...), api.OK)
	b.sync(t)
	for _, d := range []*disk.Disk{b.d, b.twin} {
		is(t, "disk.Remove", d.Remove(named(3)), api.OK)
	}
	b.sync(t)
	if l := b.d.Loose(); l != nil {
		t.Errorf("Loose: %q", l)
	}
	b.crash(t)
	same(t, "Entries", b.w.Entries(), row(1, 1, 16))
}

// P10.3: Compact removes the first segments that are old as a whole, and never the last one.
func TestCompact(t *testing.T) {
	for _, from := range []uint64{1, 100, last - 40} {
		for _, n := range []uint64{1, 7, 8, 9, 16, 17, 33} {
			for index := range n + 3 {
				b := open(t, disk.New())
				is(t, "Append", b.append(t, row(1, from, from+n-1)...), api.OK)
				b.compact(t, from+index-1)
				gone := min(index/8, (n-1)/8)
				same(t, fmt.Sprintf("%d from %d on, Compact(%d)", n, from, from+index-1), b.w.Entries(), row(1, from+8*gone, from+n-1))
				b.compact(t, 0)
				b.again(t)
				is(t, "Append", b.append(t, row(1, from+n, from+n+3)...), api.OK)
			}
		}
	}
	b := open(t, disk.New())
	is(t, "Append", b.append(t, row(1, last-19, last-1)...), api.OK)
	b.compact(t, last)
	is(t, "Append", b.append(t, of(last)...), api.OK)
	b.compact(t, last)
}

// P10.3: a segment is as old as the greatest Index of its records, also of those whose place another one took.
func TestCompactBack(t *testing.T) {
	for index := range uint64(25) {
		b := open(t, disk.New())
		is(t, "Append", b.append(t, slices.Concat(row(1, 10, 15), row(2, 3, 4), row(3, 5, 10), row(4, 7, 8), row(5, 9, 20))...), api.OK)
		b.compact(t, index)
		want := 1
		if index >= 15 {
			want = 3
		}
		if index >= 16 {
			want = 4
		}
		if l := b.d.Names(); l[0] != named(want) {
			t.Fatalf("Compact(%d): Names: %q", index, l)
		}
		b.again(t)
	}
}

// P10.3: what goes behind goes in the last segment, of whatever number that is, also behind Compact.
func TestAppendBehindCompact(t *testing.T) {
	b := open(t, disk.New())
	next := uint64(1)
	for range 90 {
		is(t, "Append", b.append(t, row(1, next, next+6)...), api.OK)
		next += 7
		b.compact(t, next-10)
		if l := b.d.Names(); len(l) > 3 {
			t.Fatalf("Names: %q", l)
		}
	}
	if l := b.d.Names(); l[len(l)-1] != named(79) {
		t.Errorf("Names: %q", l)
	}
}

// What is handed in is neither changed nor kept; what is told is new memory.
func TestMemory(t *testing.T) {
	b := open(t, disk.New())
	l := append(row(1, 1, 20), api.Entry{Index: 21, Term: 1, Body: random(2000)})
	in := make([]api.Entry, len(l))
	for i, e := range l {
		in[i] = api.Entry{Index: e.Index, Term: e.Term, Body: append(make([]byte, 0, len(e.Body)+9), e.Body...)}
	}
	is(t, "Append", b.append(t, in...), api.OK)
	same(t, "handed in", in, l)
	spoil(in)
	b.alike(t, "what was handed in is changed")
	for range 2 {
		got := b.w.Entries()
		same(t, "Entries", got, l)
		spoil(got)
		_ = append(got[:1], entry(99, 9))
		b.alike(t, "what was told is changed")
	}
	e := entry(4, 5)
	record, _ := wal.Record(e)
	got, _ := wal.Parse(record)
	clear(record)
	if !equal(e, entry(4, 5)) || !equal(got, e) {
		t.Errorf("Record changed: %s, %s", text([]api.Entry{e}), text([]api.Entry{got}))
	}
	clear(got.Body)
	if again, _ := wal.Record(e); !bytes.Equal(again, recorded(e)) {
		t.Errorf("Parse's Body changed: %x", again)
	}
}

// spoil changes all of entries.
func spoil(l []api.Entry) {
	for i := range l {
		for j := range l[i].Body {
			l[i].Body[j] ^= 255
		}
		_ = append(l[i].Body, 1, 2, 3)
		l[i].Index++
		l[i].Term--
	}
}

// written is what was written of a log, record by record.
type written struct {
	list []api.Entry
	sure int // so many of them were synced
}

// entries are those of so many records.
func (w written) entries(n int) (l []api.Entry) {
	for _, e := range w.list[:n] {
		l, _ = behind(l, e)
	}
	return l
}

// beginning fails unless a copy of the disk that crashes so has the entries of a beginning of what was written, with all that was sure.
func (w written) beginning(t *testing.T, d *disk.Disk, stay ...int) {
	t.Helper()
	d = d.Copy()
	d.Crash(stay)
	l, e := wal.Open(d)
	is(t, "Open", e, api.OK)
	got := l.Entries()
	for n := w.sure; n <= len(w.list); n++ {
		if slices.EqualFunc(got, w.entries(n), equal) {
			return
		}
	}
	t.Fatalf("Crash%d: the entries %s; of %s %d are sure", stay, text(got), text(w.list), w.sure)
}

// P10.4: behind a crash the entries are those of a beginning of what was written, behind what was synced.
func TestCrash(t *testing.T) {
	r := rand.New(rand.NewPCG(10, 4))
	for range 60 {
		b := open(t, disk.New())
		var w written
		if r.IntN(2) == 0 {
			sure(t, b.d, "a", []byte("beside"))
			b.d.Append("a", []byte("loose"))
			b.twin = b.d.Copy()
		}
		for range 12 {
			crashStep(t, r, b, &w)
			parts := 0
			for _, name := range b.d.Loose() {
				now, _ := b.d.Read(name)
				parts = max(parts, len(now))
			}
			w.beginning(t, b.d)
			for n := range parts + 3 {
				w.beginning(t, b.d, n, n)
				w.beginning(t, b.d, 0, n)
				w.beginning(t, b.d, math.MaxInt, n)
			}
			whole := b.d.Copy()
			whole.Crash([]int{1 << 30, 1 << 30})
			l, _ := wal.Open(whole)
			same(t, "a crash that leaves all", l.Entries(), w.entries(len(w.list)))
		}
	}
}

// crashStep does one thing by chance, and keeps the book of it.
func crashStep(t *testing.T, r *rand.Rand, b *both, w *written) {
	t.Helper()
	switch r.IntN(6) {
	case 0:
		b.sync(t)
		w.sure = len(w.list)
	case 1:
		parts, _ := told(b.d)
		before := 0
		for _, p := range parts {
			before += len(p.list)
		}
		b.compact(t, r.Uint64N(40))
		parts, _ = told(b.d)
		for _, p := range parts {
			before -= len(p.list)
		}
		w.list = w.list[before:]
		w.sure = max(w.sure-before, 0)
	default:
		l := chance(r, w.entries(len(w.list)), 1+r.IntN(5))
		is(t, "Append", b.append(t, l...), api.OK)
		w.list = append(w.list, l...)
		// A full segment is synced ahead of a new one: what is in the last one alone may be unsure.
		parts, _ := told(b.d)
		w.sure = max(w.sure, len(w.list)-len(parts[len(parts)-1].list))
	}
}

// chance are n entries that may stand behind some, with short bodies.
func chance(r *rand.Rand, l []api.Entry, n int) (next []api.Entry) {
	index := uint64(0)
	if len(l) > 0 {
		index = l[len(l)-1].Index
	}
	for range n {
		index++
		if r.IntN(5) == 0 {
			index = 1 + r.Uint64N(index)
		}
		next = append(next, api.Entry{Index: index, Term: r.Uint64N(4), Body: random(r.IntN(4))})
	}
	return next
}

// do does what the bytes tell, one thing behind the other, and fails where log and words differ.
func do(t *testing.T, b *both, what []byte) {
	t.Helper()
	next := func() (n int) {
		if len(what) > 0 {
			n, what = int(what[0]), what[1:]
		}
		return n
	}
	var term uint64
	for len(what) > 0 {
		term++
		switch kind := next(); kind % 8 {
		case 0, 1, 2:
			_, l := told(b.twin)
			var row []api.Entry
			for range next() % 12 {
				index := uint64(1)
				if len(l) > 0 {
					index = l[len(l)-1].Index + 1
				}
				if n := next(); n < 80 {
					index -= uint64(n % 9)
				} else if n > 250 {
					index++
				}
				e := api.Entry{Index: index, Term: term, Body: random(next())}
				l, _ = behind(l, e)
				row = append(row, e)
			}
			b.append(t, row...)
		case 3:
			b.sync(t)
		case 4:
			b.compact(t, uint64(next()))
		case 5:
			b.again(t)
		case 6:
			b.crash(t, next(), next())
		case 7:
			names := append(b.d.Names(), named(next()), "log.1", "log.00000000")
			name, more := names[next()%len(names)], random(next()%40)
			b.d.Append(name, more)
			b.twin.Append(name, more)
			b.again(t)
		}
	}
}

// P10.1 to P10.4: rows by chance.
func TestChance(t *testing.T) {
	r := rand.New(rand.NewPCG(10, 1))
	for range 300 {
		what := make([]byte, r.IntN(400))
		for i := range what {
			what[i] = byte(r.Uint32())
		}
		do(t, open(t, disk.New()), what)
	}
}

// P1: no call panics, whatever became of the disk beneath the log.
func TestDiskBeneath(t *testing.T) {
	r := rand.New(rand.NewPCG(10, 2))
	for range 300 {
		d := disk.New()
		w, _ := wal.Open(d)
		for range 40 {
			name := named(r.IntN(6))
			switch r.IntN(9) {
			case 0:
				d.Remove(name)
			case 1:
				d.Replace(name, random(r.IntN(30)))
			case 2:
				d.Append(name, frames(entry(uint64(r.IntN(9)), 1)))
			case 3:
				d.Crash([]int{r.IntN(50), r.IntN(50)})
			case 4:
				w.Sync()
			case 5:
				w.Compact(r.Uint64N(20))
			default:
				from := r.Uint64N(20)
				w.Append(row(1, from, from+r.Uint64N(20)))
			}
			w.Entries()
		}
	}
}

// FuzzWal does what bytes tell, and fails where log and words differ; and reads them as a record, and as a segment.
func FuzzWal(f *testing.F) {
	f.Add([]byte{0, 9, 100, 3, 100, 4, 40, 5, 3, 4, 3, 5, 6, 9, 9}, recorded(entry(3, 4)))
	f.Add([]byte{0, 11, 7, 1, 9, 90, 255}, frames(row(1, 1, 9)...))
	f.Add([]byte{}, slices.Concat(frames(row(1, 4, 6)...), frames(row(2, 5, 5)...), []byte{90, 3}))
	f.Fuzz(func(t *testing.T, what, segment []byte) {
		if len(what) > 300 || len(segment) > 9000 {
			return
		}
		parses(t, segment)
		d := disk.New()
		sure(t, d, named(2), frames(row(1, 1, 4)...))
		sure(t, d, named(7), segment)
		sure(t, d, named(8), frames(row(1, 5, 9)...))
		do(t, open(t, d), what)
	})
}
