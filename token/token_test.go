package token_test

import (
	"bytes"
	"encoding/binary"
	"fmt"
	"hash/crc32"
	"math"
	"math/rand/v2"
	"slices"
	"strings"
	"testing"

	"ringer/api"
	"ringer/disk"
	"ringer/token"
)

const last = math.MaxUint64 // the greatest number

// ends are numbers whose bytes are as few, and as many, as they can be.
var ends = []uint64{0, 1, 2, 127, 128, 300, 1<<14 - 1, 1 << 14, 1 << 32, 1<<63 - 1, 1 << 63, last - 1, last}

// rec are the numbers of a worker's record.
type rec struct{ job, token uint64 }

// numbers are numbers' bytes, word for word as layer 1 tells them.
func numbers(l ...uint64) (b []byte) {
	for _, n := range l {
		b = binary.AppendUvarint(b, n)
	}
	return b
}

// framed is a record's frame, word for word as layer 3 tells it; also of one that is too long.
func framed(record []byte) []byte {
	text := append(binary.AppendUvarint(nil, uint64(len(record))), record...)
	c := crc32.Checksum(text, crc32.MakeTable(crc32.Castagnoli))
	return binary.LittleEndian.AppendUint32(append([]byte{90}, text...), (c>>15|c<<17)+2726488792)
}

// file are workers' records as frames, one behind the other.
func file(l ...rec) (b []byte) {
	for _, r := range l {
		b = append(b, framed(numbers(r.job, r.token))...)
	}
	return b
}

// unframed is the record whose frame b begins with, and how many bytes that has; 0, if there is none.
func unframed(b []byte) ([]byte, int) {
	if len(b) < 6 {
		return nil, 0
	}
	n, at := binary.Uvarint(b[1:])
	if at <= 0 || n > 4096 || int(n) > len(b)-1-at {
		return nil, 0
	}
	record := b[1+at : 1+at+int(n)]
	if f := framed(record); bytes.HasPrefix(b, f) {
		return record, len(f)
	}
	return nil, 0
}

// recorded are the numbers of a record, if it is a worker's: what is read is one's, if its own bytes are just that.
func recorded(b []byte) (r rec, ok bool) {
	job, i := binary.Uvarint(b)
	if i <= 0 {
		return rec{}, false
	}
	token, j := binary.Uvarint(b[i:])
	r = rec{job, token}
	return r, j > 0 && bytes.Equal(numbers(r.job, r.token), b)
}

// goods are the good records of a file, and how many of its bytes are good.
func goods(b []byte) (l []rec, good int) {
	for {
		record, n := unframed(b[good:])
		if n == 0 {
			return l, good
		}
		r, ok := recorded(record)
		if !ok {
			return l, good
		}
		l = append(l, r)
		good += n
	}
}

// top is the greatest token of a job in records.
func top(l []rec, job uint64) (n uint64) {
	for _, r := range l {
		if r.job == job && r.token > n {
			n = r.token
		}
	}
	return n
}

// jobs are all of records whose top is above 0, rising.
func jobs(l []rec) (all []uint64) {
	for _, r := range l {
		if r.token > 0 && !slices.Contains(all, r.job) {
			all = append(all, r.job)
		}
	}
	slices.Sort(all)
	return all
}

// tidied are the records that stay of some.
func tidied(l []rec) (all []rec) {
	for _, job := range jobs(l) {
		all = append(all, rec{job, top(l, job)})
	}
	return all
}

// is fails unless a call tells want.
func is(t *testing.T, what string, e, want api.Errno) {
	t.Helper()
	if e != want {
		t.Fatalf("%s: %d; want %d", what, e, want)
	}
}

// sure writes a file, and syncs it.
func sure(t *testing.T, d *disk.Disk, name string, b []byte) {
	t.Helper()
	is(t, "Replace", d.Replace(name, b), api.OK)
	is(t, "Sync", d.Sync(name), api.OK)
}

// holding is a disk of which the file token alone is there.
func holding(t *testing.T, b []byte) *disk.Disk {
	t.Helper()
	d := disk.New()
	sure(t, d, "token", b)
	return d
}

// crowded is a disk with so many files, none of which is token.
func crowded(t *testing.T, n int) *disk.Disk {
	t.Helper()
	d := disk.New()
	for i := range n {
		sure(t, d, fmt.Sprint("f", i), []byte{byte(i)})
	}
	return d
}

// stand fails unless a disk stands as another one does, now and behind some crashes.
func stand(t *testing.T, what string, d, twin *disk.Disk) {
	t.Helper()
	stands(t, what, d, twin)
	if len(d.Loose()) == 0 {
		return
	}
	for _, stay := range [][]int{nil, {0, 1}, {1}, {1, 1, 1}, {2, 2, 2}, {3, 1, 2, 3}, slices.Repeat([]int{1 << 21}, 64)} {
		d, twin := d.Copy(), twin.Copy()
		d.Crash(stay)
		twin.Crash(stay)
		stands(t, fmt.Sprint(what, "; Crash", stay[:min(len(stay), 4)]), d, twin)
	}
}

func stands(t *testing.T, what string, d, twin *disk.Disk) {
	t.Helper()
	if got, want := d.Names(), twin.Names(); !slices.Equal(got, want) {
		t.Fatalf("%s: Names: %q; want %q", what, got, want)
	}
	if got, want := d.Loose(), twin.Loose(); !slices.Equal(got, want) {
		t.Fatalf("%s: Loose: %q; want %q", what, got, want)
	}
	for _, name := range slices.Concat(twin.Names(), twin.Loose()) {
		got, _ := d.Read(name)
		if want, _ := twin.Read(name); !bytes.Equal(got, want) {
			t.Fatalf("%s: Read(%q): %.60x (%d bytes); want %.60x (%d bytes)", what, name, got, len(got), want, len(want))
		}
		got, there := d.Sure(name)
		if want, ok := twin.Sure(name); !bytes.Equal(got, want) || there != ok {
			t.Fatalf("%s: Sure(%q): %.60x (%d bytes), %v; want %.60x (%d bytes), %v", what, name, got, len(got), there, want, len(want), ok)
		}
	}
}

// held is a book, its disk, and the records that it must have.
type held struct {
	*token.Book
	disk *disk.Disk
	recs []rec
}

// tells fails unless the book tells of its records what the chapter's words do.
func (h *held) tells(t *testing.T, what string) {
	t.Helper()
	want := jobs(h.recs)
	if got := h.Jobs(); !slices.Equal(got, want) {
		t.Fatalf("%s: Jobs: %d; want %d", what, got, want)
	}
	for _, r := range h.recs {
		for _, job := range []uint64{r.job, r.job + 1, r.job - 1, r.token} {
			if got, want := h.Top(job), top(h.recs, job); got != want {
				t.Fatalf("%s: Top(%d): %d; want %d", what, job, got, want)
			}
		}
	}
	for _, job := range ends {
		if got, want := h.Top(job), top(h.recs, job); got != want {
			t.Fatalf("%s: Top(%d): %d; want %d", what, job, got, want)
		}
	}
}

// open opens a disk's book, and fails unless it, and the disk, stand as the chapter's words tell it.
func open(t *testing.T, what string, d *disk.Disk) *held {
	t.Helper()
	twin := d.Copy()
	b, _ := twin.Read("token")
	recs, good := goods(b)
	if good < len(b) {
		sure(t, twin, "token", b[:good])
	}
	book, e := token.Open(d)
	is(t, what+": Open", e, api.OK)
	if book == nil {
		t.Fatalf("%s: Open: no book", what)
	}
	stand(t, what+": Open", d, twin)
	h := &held{book, d, recs}
	h.tells(t, what+": Open")
	return h
}

// accept accepts a token, and fails unless all stands as the chapter's words tell it.
func (h *held) accept(t *testing.T, job, n uint64) api.Errno {
	t.Helper()
	what := fmt.Sprintf("Accept(%d, %d)", job, n)
	twin := h.disk.Copy()
	var want api.Errno
	switch {
	case n == 0:
		want = api.ErrArg
	case n <= top(h.recs, job):
		want = api.ErrOld
	default:
		want = twin.Append("token", file(rec{job, n}))
	}
	if want == api.OK {
		is(t, "Sync", twin.Sync("token"), api.OK)
		h.recs = append(h.recs, rec{job, n})
	}
	is(t, what, h.Accept(job, n), want)
	stand(t, what, h.disk, twin)
	h.tells(t, what)
	return want
}

// tidy tidies the book, and fails unless all stands as the chapter's words tell it.
func (h *held) tidy(t *testing.T) api.Errno {
	t.Helper()
	twin := h.disk.Copy()
	want := twin.Replace("token", file(tidied(h.recs)...))
	if want == api.OK {
		is(t, "Sync", twin.Sync("token"), api.OK)
		h.recs = tidied(h.recs)
	}
	is(t, "Tidy", h.Tidy(), want)
	stand(t, "Tidy", h.disk, twin)
	h.tells(t, "Tidy")
	return want
}

// The chapter's examples.
func TestExamples(t *testing.T) {
	d := disk.New()
	b, e := token.Open(d)
	is(t, "Open", e, api.OK)
	is(t, "Accept(1, 5)", b.Accept(1, 5), api.OK)
	is(t, "Accept(1, 5)", b.Accept(1, 5), api.ErrOld)
	is(t, "Accept(1, 4)", b.Accept(1, 4), api.ErrOld)
	is(t, "Accept(2, 4)", b.Accept(2, 4), api.OK)
	if b.Top(1) != 5 || b.Top(3) != 0 {
		t.Fatalf("Top: %d, %d; want 5, 0", b.Top(1), b.Top(3))
	}
	d.Crash(nil)
	b, e = token.Open(d)
	is(t, "Open", e, api.OK)
	is(t, "Accept(1, 5)", b.Accept(1, 5), api.ErrOld)
	is(t, "Accept(1, 6)", b.Accept(1, 6), api.OK)
}

// The bytes of the file, written out by hand.
func TestBytes(t *testing.T) {
	d := disk.New()
	h := open(t, "a new disk", d)
	is(t, "Accept", h.accept(t, 300, 5), api.OK)
	is(t, "Accept", h.accept(t, 0, last), api.OK)
	b, there := d.Sure("token")
	if !there || !bytes.HasPrefix(b, []byte{90, 3, 0xac, 2, 5}) {
		t.Fatalf("the file token: %x, %v", b, there)
	}
	if behind := b[9:]; !bytes.HasPrefix(behind, append([]byte{90, 11, 0}, "\xff\xff\xff\xff\xff\xff\xff\xff\xff\x01"...)) || len(behind) != 17 {
		t.Fatalf("the file token: %x", b)
	}
}

// P12.1: of no disk there is no book.
func TestOpenNoDisk(t *testing.T) {
	for i, d := range []*disk.Disk{nil, {}, new(disk.Disk)} {
		for range 2 {
			if b, e := token.Open(d); b != nil || e != api.ErrNil {
				t.Fatalf("no disk %d: %v, %d; want nil, ErrNil", i, b, e)
			}
		}
	}
}

// Nothing is told of no book: nil, or one that Open did not make.
func TestNoBook(t *testing.T) {
	none, _ := token.Open(nil)
	for i, b := range []*token.Book{nil, {}, new(token.Book), none} {
		for range 2 {
			for _, job := range ends {
				if n := b.Top(job); n != 0 {
					t.Fatalf("no book %d: Top(%d): %d", i, job, n)
				}
				for _, n := range ends {
					is(t, fmt.Sprintf("no book %d: Accept(%d, %d)", i, job, n), b.Accept(job, n), api.ErrNil)
				}
			}
			if l := b.Jobs(); len(l) != 0 {
				t.Fatalf("no book %d: Jobs: %d", i, l)
			}
			is(t, fmt.Sprintf("no book %d: Tidy", i), b.Tidy(), api.ErrNil)
		}
	}
}

// P12.1: of a disk without the file, and of one whose file has no bytes, nothing is told, and nothing written.
func TestOpenNothing(t *testing.T) {
	open(t, "a new disk", disk.New())
	open(t, "a file without bytes", holding(t, nil))
	loose := disk.New()
	is(t, "Replace", loose.Replace("token", nil), api.OK)
	open(t, "a loose file without bytes", loose)
	gone := holding(t, file(rec{1, 5}))
	is(t, "Remove", gone.Remove("token"), api.OK)
	h := open(t, "a file that is gone, but not for sure", gone)
	is(t, "Accept", h.accept(t, 1, 3), api.OK)
	others := crowded(t, 64)
	open(t, "64 files", others)
	d := disk.New()
	for _, name := range []string{"Token", "token.", "toke", "tokens", "log.00000001", "vote", " token"} {
		sure(t, d, name, file(rec{1, 5}))
	}
	h = open(t, "others", d)
	is(t, "Accept", h.accept(t, 1, 3), api.OK)
	if n := len(d.Names()); n != 8 {
		t.Fatalf("%d files; want 8", n)
	}
}

// rows are rows of good records.
func rows() map[string][]rec {
	l := map[string][]rec{
		"one":               {{1, 5}},
		"two of one job":    {{1, 5}, {1, 6}},
		"the greatest ends": {{1, 5}, {2, 9}, {1, 6}, {2, 10}, {1, 7}},
		"the greatest 1st":  {{1, 9}, {1, 5}, {1, 7}},
		"the greatest 2nd":  {{1, 5}, {1, 9}, {1, 7}},
		"the same again":    {{1, 5}, {1, 5}, {1, 5}},
		"falling":           {{1, 9}, {1, 8}, {1, 7}, {1, 6}},
		"a token 0":         {{1, 0}},
		"a token 0, 0":      {{0, 0}},
		"0 behind another":  {{1, 5}, {1, 0}},
		"0 ahead of one":    {{1, 0}, {1, 5}},
		"0 of others":       {{3, 0}, {1, 5}, {2, 0}, {1, 7}, {4, 0}},
		"the job 0":         {{0, 5}, {0, 8}, {0, 3}},
		"the job 2^64 - 1":  {{last, 5}, {last, 8}, {last, 3}},
		"tokens to the end": {{1, last}, {0, last - 1}, {last, last}, {2, 1}},
		"falling jobs":      {{9, 1}, {8, 2}, {7, 3}, {300, 4}, {6, 5}, {1 << 40, 6}, {0, 7}},
	}
	var all []rec
	for _, job := range ends {
		for _, n := range ends {
			all = append(all, rec{job, n})
		}
	}
	l["all ends"] = all
	return l
}

// P12.1: where all bytes are good, nothing is written, whatever is sure of them.
func TestOpenGood(t *testing.T) {
	for what, recs := range rows() {
		b := file(recs...)
		open(t, what, holding(t, b))
		loose := disk.New()
		is(t, "Replace", loose.Replace("token", b), api.OK)
		open(t, what+", loose", loose)
		for n := 0; n < len(b); n += 1 + len(b)/9 {
			d := holding(t, b[:n])
			is(t, "Append", d.Append("token", b[n:]), api.OK)
			h := open(t, what+", loose from a place on", d)
			// What goes behind lets all be sure.
			h.accept(t, 77, 1)
			if l := d.Loose(); l != nil {
				t.Fatalf("%s: Loose: %q", what, l)
			}
		}
	}
}

// P12.1: what is torn is cut off, wherever that is.
func TestOpenTorn(t *testing.T) {
	for what, recs := range rows() {
		if what == "all ends" {
			recs = recs[len(recs)-4:]
		}
		b := file(recs...)
		for n := range b {
			h := open(t, fmt.Sprintf("%s, %d bytes", what, n), holding(t, b[:n]))
			if !strings.HasPrefix(string(b), string(file(h.recs...))) || len(h.recs) >= len(recs) {
				t.Fatalf("%s, %d bytes: %d", what, n, h.recs)
			}
			d := holding(t, nil)
			is(t, "Append", d.Append("token", b), api.OK)
			d.Crash([]int{n})
			other := open(t, fmt.Sprintf("%s, %d parts stay", what, n), d)
			stand(t, what, h.disk, other.disk)
			open(t, fmt.Sprintf("%s, %d bytes ahead are gone", what, n+1), holding(t, b[n+1:]))
			open(t, fmt.Sprintf("%s, the byte %d is gone", what, n), holding(t, slices.Delete(slices.Clone(b), n, n+1)))
		}
	}
}

// P12.1: from the record on of which a byte is changed nothing is good, good records behind it or not.
func TestOpenChanged(t *testing.T) {
	recs := []rec{{1, 5}, {300, 1 << 20}, {1, 6}}
	b := file(recs...)
	for i := range b {
		for c := 1; c < 256; c++ {
			other := slices.Clone(b)
			other[i] ^= byte(c)
			d := holding(t, other)
			h := open(t, fmt.Sprintf("the byte %d is %d", i, other[i]), d)
			left := 0
			for len(file(recs[:left+1]...)) <= i {
				left++
			}
			if !slices.Equal(h.recs, recs[:left]) {
				t.Fatalf("the byte %d is %d: %d", i, other[i], h.recs)
			}
			if c == 64 {
				d.Crash(nil)
				open(t, "a crash behind it", d)
			}
		}
	}
}

// wrong are bytes that begin with no frame, or with one of a record that is no worker's.
func wrong() map[string][]byte {
	long := string(bytes.Repeat([]byte{255}, 9))
	good := file(rec{1, 9})
	l := map[string][]byte{
		"a byte 0":              {0},
		"zeros":                 make([]byte, 20),
		"a mark":                {90},
		"marks":                 bytes.Repeat([]byte{90}, 9),
		"a mark, and no byte":   {90, 0},
		"words":                 []byte("no frame, these are words"),
		"all ones":              bytes.Repeat([]byte{255}, 30),
		"another mark":          append([]byte{91}, good[1:]...),
		"no mark":               good[1:],
		"half a frame":          good[:5],
		"a spoilt check":        append(slices.Clone(good[:len(good)-1]), good[len(good)-1]^1),
		"a length not shortest": slices.Concat([]byte{90, 0x82, 0}, good[2:]),
		"too long":              framed(make([]byte, 4097)),
		"a check not masked":    binary.LittleEndian.AppendUint32([]byte{90, 2, 1, 9}, crc32.Checksum([]byte{2, 1, 9}, crc32.MakeTable(crc32.Castagnoli))),
	}
	records := map[string][]byte{
		"no bytes":             nil,
		"one number":           numbers(1),
		"one number 0":         numbers(0),
		"one great number":     numbers(last),
		"three numbers":        numbers(1, 9, 3),
		"three numbers, 0":     numbers(1, 9, 0),
		"four numbers":         numbers(1, 9, 3, 4),
		"a byte more":          append(numbers(1, 9), 128),
		"bytes more":           append(numbers(1, 9), make([]byte, 4000)...),
		"cut in the token":     numbers(1, 300)[:2],
		"cut in a long token":  numbers(1, last)[:10],
		"cut in the job":       numbers(300, 9)[:1],
		"an open token":        {1, 0x89},
		"an open job":          {0x81},
		"job not shortest":     {0x81, 0, 9},
		"job 0 not shortest":   {0x80, 0, 9},
		"token not shortest":   {1, 0x89, 0},
		"token 0 not shortest": {1, 0x80, 0},
		"job beyond all":       []byte(long + "\x02\x09"),
		"token beyond all":     []byte("\x01" + long + "\x02"),
		"token far beyond all": []byte("\x01" + long + "\x7f"),
		"job of eleven bytes":  []byte(long + "\x81\x00\x09"),
		"token, eleven bytes":  []byte("\x01" + long + "\x81\x00"),
		"token, ten bytes, 0":  []byte("\x01" + strings.Repeat("\x80", 9) + "\x00"),
		"a frame":              good,
		"words in a frame":     []byte("words"),
		"4096 bytes":           make([]byte, 4096),
	}
	for what, b := range records {
		l["a frame of "+what] = framed(b)
	}
	return l
}

// P12.1: what is not good is gone, and all that stands behind it, good or not; the file is sure then.
func TestOpenWrong(t *testing.T) {
	good := []rec{{1, 5}, {2, 4}, {1, 7}, {last, last}}
	for what, b := range wrong() {
		if l, n := goods(b); n > 0 {
			t.Fatalf("%s: %d", what, l)
		}
		for at := range len(good) + 1 {
			where := fmt.Sprintf("%s, behind %d", what, at)
			ahead, behind := file(good[:at]...), file(good[at:]...)
			d := holding(t, slices.Concat(ahead, b, behind))
			h := open(t, where, d)
			if now, there := d.Sure("token"); !there || !bytes.Equal(now, ahead) || d.Loose() != nil {
				t.Fatalf("%s: %x, %v; Loose: %q", where, now, there, d.Loose())
			}
			is(t, where, h.accept(t, 1, 6), [...]api.Errno{api.OK, api.OK, api.OK, api.ErrOld, api.ErrOld}[at])
			open(t, where+", again", d)
			loose := holding(t, ahead)
			is(t, "Append", loose.Append("token", b), api.OK)
			is(t, "Append", loose.Append("token", behind), api.OK)
			open(t, where+", loose", loose)
			for other, c := range wrong() {
				if len(b)+len(c) < 60 {
					open(t, where+", then "+other, holding(t, slices.Concat(ahead, b, c, behind)))
				}
			}
		}
	}
}

// P12.1: no other file is changed; what of others is loose stays so.
func TestOpenOthers(t *testing.T) {
	for _, b := range [][]byte{nil, file(rec{1, 5}), file(rec{1, 5}, rec{2, 6})[:12], []byte("words")} {
		d := holding(t, b)
		sure(t, d, "a", []byte("sure"))
		is(t, "Append", d.Append("a", []byte(" loose")), api.OK)
		is(t, "Replace", d.Replace("vote", []byte("loose")), api.OK)
		sure(t, d, "z", []byte("gone"))
		is(t, "Remove", d.Remove("z"), api.OK)
		h := open(t, fmt.Sprintf("%x", b), d)
		h.accept(t, 1, 6)
		h.accept(t, 1, 6)
		h.tidy(t)
		if l := d.Loose(); !slices.Equal(l, []string{"a", "vote", "z"}) {
			t.Fatalf("Loose: %q", l)
		}
	}
}

// P12.1: Top is the greatest token of a job, wherever its record stands; 0, if there is none.
func TestTop(t *testing.T) {
	for _, tokens := range [][]uint64{{9, 5, 7}, {5, 9, 7}, {5, 7, 9}, {7, 5, 9}, {9}, {0}, {0, 9}, {9, 0}, {last, 1}, {1, last}, {last - 1, last, 1}, {1 << 63, 1<<63 - 1}} {
		for _, job := range []uint64{0, 1, 2, 300, last} {
			var recs []rec
			for i, n := range tokens {
				recs = append(recs, rec{job, n}, rec{job + 10, uint64(i + 20)}, rec{3, 0})
			}
			h := open(t, "rows", holding(t, file(recs...)))
			if n := h.Top(job); n != slices.Max(tokens) {
				t.Fatalf("Top(%d) of %d: %d", job, tokens, n)
			}
			if n := h.Top(3); n != 0 {
				t.Fatalf("Top(3): %d", n)
			}
			if n := h.Top(4); n != 0 {
				t.Fatalf("Top(4): %d", n)
			}
		}
	}
}

// P12.1: Jobs are all whose Top is above 0, rising, in whatever order they came.
func TestJobs(t *testing.T) {
	r := rand.New(rand.NewPCG(12, 1))
	h := open(t, "a new disk", disk.New())
	if l := h.Jobs(); len(l) != 0 {
		t.Fatalf("Jobs: %d", l)
	}
	var want []uint64
	for i := range 500 {
		job := r.Uint64() >> r.IntN(64)
		if h.Top(job) > 0 {
			continue
		}
		is(t, "Accept", h.Accept(job, r.Uint64N(9)+1), api.OK)
		want = append(want, job)
		slices.Sort(want)
		if i%50 == 49 && !slices.Equal(h.Jobs(), want) {
			t.Fatalf("Jobs: %d; want %d", h.Jobs(), want)
		}
	}
	var b []byte
	for i, job := range want {
		b = append(file(rec{job, uint64(i % 2)}), b...)
	}
	h = open(t, "each second one's is 0", holding(t, b))
	for i, job := range h.Jobs() {
		if job != want[2*i+1] {
			t.Fatalf("Jobs[%d]: %d; want %d", i, job, want[2*i+1])
		}
	}
}

// What Jobs told may be changed: the book stands as it did.
func TestJobsMemory(t *testing.T) {
	h := open(t, "rows", holding(t, file(rec{3, 1}, rec{1, 5}, rec{2, 4})))
	for range 3 {
		l, other := h.Jobs(), h.Jobs()
		l[0], l[2] = 99, 98
		_ = append(l[:1], 7, 8, 9)
		if !slices.Equal(other, []uint64{1, 2, 3}) {
			t.Fatalf("two lists share memory: %d", other)
		}
		h.tells(t, "what was told is changed")
	}
	h.accept(t, 0, 1)
	h.tidy(t)
}

// P12.2: ErrArg of the token 0, ErrOld unless it is above Top, else it is accepted.
func TestAccept(t *testing.T) {
	for _, job := range ends {
		for _, n := range ends {
			h := open(t, "another job", holding(t, file(rec{job ^ 1, n | 1})))
			is(t, "Accept 0", h.accept(t, job, 0), api.ErrArg)
			if n == 0 {
				continue
			}
			is(t, "Accept", h.accept(t, job, n), api.OK)
			is(t, "Accept again", h.accept(t, job, n), api.ErrOld)
			is(t, "Accept 0", h.accept(t, job, 0), api.ErrArg)
			if n > 1 {
				is(t, "Accept 1", h.accept(t, job, 1), api.ErrOld)
				is(t, "Accept one below", h.accept(t, job, n-1), api.ErrOld)
				is(t, "Accept a half", h.accept(t, job, n/2), api.ErrOld)
			}
			if n < last {
				is(t, "Accept one above", h.accept(t, job, n+1), api.OK)
				is(t, "Accept the one below", h.accept(t, job, n), api.ErrOld)
			}
			// The greatest one, then again.
			h.accept(t, job, last)
			is(t, "Accept the greatest one again", h.accept(t, job, last), api.ErrOld)
			is(t, "Accept 1", h.accept(t, job, 1), api.ErrOld)
			is(t, "Accept 0", h.accept(t, job, 0), api.ErrArg)
			is(t, "Accept of another one", h.accept(t, job+2, 1), api.OK)
		}
	}
}

// P12.2: each pair of a token that was accepted, or read, and of one that comes.
func TestAcceptPairs(t *testing.T) {
	for _, first := range ends {
		for _, next := range ends {
			read := open(t, "read", holding(t, file(rec{7, first})))
			want := api.OK
			if next <= first {
				want = api.ErrOld
			}
			if next == 0 {
				want = api.ErrArg
			}
			is(t, fmt.Sprintf("Accept(7, %d) behind %d", next, first), read.accept(t, 7, next), want)
			again := open(t, "again", read.disk.Copy())
			is(t, "Accept 0", again.accept(t, 7, 0), api.ErrArg)
			again.tidy(t)
		}
	}
}

// P12.2: a full disk refuses, and nothing is changed; what is wrong, or old, is told ahead of it.
func TestAcceptFullDisk(t *testing.T) {
	d := crowded(t, 64)
	h := open(t, "64 others", d)
	is(t, "Accept", h.accept(t, 1, 5), api.ErrFull)
	is(t, "Accept again", h.accept(t, 1, 5), api.ErrFull)
	is(t, "Accept 0", h.accept(t, 1, 0), api.ErrArg)
	is(t, "Accept one below", h.accept(t, 1, 4), api.ErrFull)
	is(t, "Tidy", h.tidy(t), api.ErrFull)
	if len(h.Jobs()) != 0 || h.Top(1) != 0 {
		t.Fatalf("Jobs: %d, Top(1): %d", h.Jobs(), h.Top(1))
	}
	is(t, "Remove", d.Remove("f0"), api.OK)
	is(t, "Accept", h.accept(t, 1, 4), api.OK)
	is(t, "Accept", h.accept(t, 1, 5), api.OK)
	is(t, "Tidy", h.tidy(t), api.OK)
	// The file is one of 64: there is room for what goes behind.
	full := crowded(t, 63)
	sure(t, full, "token", file(rec{1, 5}))
	h = open(t, "one of 64", full)
	is(t, "Accept", h.accept(t, 1, 6), api.OK)
	is(t, "Tidy", h.tidy(t), api.OK)
}

// brim are good records of just so many bytes, of the jobs 1 and 2, whose greatest tokens are 127 and 300.
func brim(t *testing.T, n int) []byte {
	t.Helper()
	eight, nine := file(rec{1, 127}), file(rec{2, 300})
	for n-len(nine) >= 0 {
		if (n-len(nine))%len(eight) == 0 {
			return append(bytes.Repeat(eight, (n-len(nine))/len(eight)), nine...)
		}
		nine = append(nine, file(rec{2, 300})...)
	}
	t.Fatalf("no %d bytes", n)
	return nil
}

// P12.2: a file that would grow beyond 2^20 bytes is refused, and nothing is changed.
func TestAcceptFullFile(t *testing.T) {
	const all = 1 << 20
	for _, free := range []int{0, 1, 7, 8, 9, 16, 17, 25, 26, 34, 35, 43} {
		d := holding(t, brim(t, all-free))
		b, e := token.Open(d)
		is(t, "Open", e, api.OK)
		twin := d.Copy()
		for _, next := range []rec{{last, last}, {1, 128}, {3, 1}} {
			f := file(next)
			want := twin.Append("token", f)
			if want == api.OK {
				is(t, "Sync", twin.Sync("token"), api.OK)
			}
			was, jobs := b.Top(next.job), b.Jobs()
			is(t, fmt.Sprintf("Accept(%d, %d), %d bytes are free", next.job, next.token, free), b.Accept(next.job, next.token), want)
			stands(t, "Accept", d, twin)
			if want == api.OK {
				was, jobs = next.token, slices.Compact(slices.Sorted(slices.Values(append(jobs, next.job))))
			}
			if b.Top(next.job) != was || !slices.Equal(b.Jobs(), jobs) {
				t.Fatalf("Top(%d): %d, Jobs: %d; want %d, %d", next.job, b.Top(next.job), b.Jobs(), was, jobs)
			}
			is(t, "Accept an old one", b.Accept(1, 127), api.ErrOld)
			is(t, "Accept 0", b.Accept(1, 0), api.ErrArg)
		}
		// What is tidied has room again.
		is(t, "Tidy", b.Tidy(), api.OK)
		h := open(t, "tidied", d)
		is(t, "Accept", h.accept(t, 2, 301), api.OK)
		is(t, "Accept", h.accept(t, 2, 301), api.ErrOld)
	}
}

// P12.2: accepted up to the brim, one by one.
func TestAcceptToTheBrim(t *testing.T) {
	d := disk.New()
	b, e := token.Open(d)
	is(t, "Open", e, api.OK)
	n, all := uint64(0), 0
	for {
		long := len(file(rec{n % 5, n + 1}))
		e := b.Accept(n%5, n+1)
		if e == api.ErrFull && all+long > 1<<20 {
			break
		}
		is(t, "Accept", e, api.OK)
		if n++; b.Top((n-1)%5) != n {
			t.Fatalf("Top(%d): %d; want %d", (n-1)%5, b.Top((n-1)%5), n)
		}
		all += long
	}
	file, there := d.Sure("token")
	if !there || len(file) != all || len(d.Loose()) != 0 {
		t.Fatalf("%d bytes, %v, Loose %q; want %d", len(file), there, d.Loose(), all)
	}
	again, e := token.Open(d)
	is(t, "Open", e, api.OK)
	for job := range uint64(6) {
		if again.Top(job) != b.Top(job) {
			t.Fatalf("Top(%d): %d; want %d", job, again.Top(job), b.Top(job))
		}
	}
	is(t, "Accept", again.Accept(n%5, n+1), api.ErrFull)
	is(t, "Tidy", again.Tidy(), api.OK)
	is(t, "Accept", again.Accept(n%5, n+1), api.OK)
}

// P12.3: the file is replaced by one record of each of Jobs, and is sure; twice is as once.
func TestTidy(t *testing.T) {
	for what, recs := range rows() {
		d := holding(t, file(recs...))
		for range 2 {
			h := open(t, what, d)
			for range 2 {
				is(t, what+": Tidy", h.tidy(t), api.OK)
				b, there := d.Sure("token")
				if want := file(tidied(recs)...); !there || !bytes.Equal(b, want) || d.Loose() != nil {
					t.Fatalf("%s: Tidy: %x, %v; want %x", what, b, there, want)
				}
			}
		}
		d.Crash(nil)
		h := open(t, what+", a crash", d)
		for _, r := range recs {
			if n := h.Top(r.job); n != top(recs, r.job) {
				t.Fatalf("%s: Top(%d): %d", what, r.job, n)
			}
			want := api.ErrOld
			if r.token == 0 {
				want = api.ErrArg
			}
			is(t, what+": Accept", h.accept(t, r.job, r.token), want)
		}
	}
}

// P12.3: a book without records leaves a file without bytes, also where there was none.
func TestTidyNothing(t *testing.T) {
	for i, d := range []*disk.Disk{disk.New(), holding(t, nil), holding(t, []byte("words")), holding(t, file(rec{1, 0}, rec{2, 0})), crowded(t, 63)} {
		h := open(t, fmt.Sprint("nothing ", i), d)
		for range 2 {
			is(t, "Tidy", h.tidy(t), api.OK)
			if b, there := d.Sure("token"); !there || len(b) != 0 {
				t.Fatalf("nothing %d: %x, %v", i, b, there)
			}
		}
		h.accept(t, 1, 1)
		h.tidy(t)
	}
}

// P12.3: where the disk tells an error, Tidy tells it, and nothing is changed.
func TestTidyFull(t *testing.T) {
	d := disk.New()
	h := open(t, "a new disk", d)
	for _, r := range []rec{{2, 4}, {1, 5}, {1, 6}} {
		is(t, "Accept", h.accept(t, r.job, r.token), api.OK)
	}
	// Somebody else takes the file's place.
	is(t, "Remove", d.Remove("token"), api.OK)
	is(t, "Sync", d.Sync("token"), api.OK)
	for i := range 64 {
		is(t, "Replace", d.Replace(fmt.Sprint("f", i), nil), api.OK)
	}
	for range 2 {
		is(t, "Tidy", h.tidy(t), api.ErrFull)
		is(t, "Accept", h.accept(t, 1, 7), api.ErrFull)
		is(t, "Accept", h.accept(t, 1, 6), api.ErrOld)
	}
	if h.Top(1) != 6 || h.Top(2) != 4 || !slices.Equal(h.Jobs(), []uint64{1, 2}) {
		t.Fatalf("Top: %d, %d; Jobs: %d", h.Top(1), h.Top(2), h.Jobs())
	}
	is(t, "Remove", d.Remove("f9"), api.OK)
	is(t, "Tidy", h.tidy(t), api.OK)
	is(t, "Accept", open(t, "again", d).accept(t, 1, 6), api.ErrOld)
}

// stays are the numbers of crashes.
var stays = [][]int{nil, {}, {0}, {1}, {2}, {0, 0}, {0, 1}, {1, 0}, {1, 1}, {5, 5}, {-1, -5}, {100, 100}, {1 << 30, 1 << 30}, {math.MaxInt, math.MinInt}}

// P12.4: what was accepted is old for ever, and so is all below; what is above is not.
func TestCrash(t *testing.T) {
	for i, stay := range stays {
		for _, other := range []string{"a", "zz", ""} {
			d := disk.New()
			h := open(t, "a new disk", d)
			for n := uint64(1); n < 30; n++ {
				job := n * 7 % 3
				if other != "" {
					d.Append(other, []byte("loose"))
				}
				is(t, "Accept", h.accept(t, job, n*10), api.OK)
				switch n % 5 {
				case 0:
					h.accept(t, job, n*10-1)
				case 1:
					h.tidy(t)
				case 2:
					h.accept(t, job, 0)
				case 3:
					h.accept(t, job, n*10)
				}
				was := slices.Clone(h.recs)
				d.Crash(stay)
				h = open(t, fmt.Sprint("Crash", stay), d)
				if !slices.Equal(h.recs, was) {
					t.Fatalf("Crash%d: %d; want %d", stay, h.recs, was)
				}
				if (int(n)+i)%2 == 0 {
					h.tidy(t)
				}
				for _, old := range []uint64{1, n*10 - 1, n * 10} {
					is(t, "Accept", h.accept(t, job, old), api.ErrOld)
				}
				is(t, "Accept", h.accept(t, job, n*10+1), api.OK)
			}
		}
	}
}

// P12.4: of what is loose when a book is opened a crash may leave any part: what was accepted behind it stays.
func TestCrashLoose(t *testing.T) {
	recs := []rec{{1, 5}, {2, 9}, {1, 300}}
	b := file(recs...)
	for stay := range len(b) + 2 {
		d := holding(t, b[:8])
		is(t, "Append", d.Append("token", b[8:]), api.OK)
		open(t, "loose", d)
		d.Crash([]int{stay})
		h := open(t, "torn", d)
		is(t, "Accept", h.accept(t, 1, 301), api.OK)
		d.Crash([]int{stay})
		h = open(t, "again", d)
		is(t, "Accept", h.accept(t, 1, 301), api.ErrOld)
		is(t, "Accept", h.accept(t, 1, 302), api.OK)
	}
}

// P12.4: of each job tokens that are accepted rise, whatever is asked, and whatever crash comes.
func TestChance(t *testing.T) {
	r := rand.New(rand.NewPCG(12, 2))
	for range 120 {
		d := disk.New()
		h := open(t, "a new disk", d)
		rose := map[uint64]uint64{}
		for range 80 {
			job := []uint64{0, 1, 2, last, r.Uint64() >> r.IntN(64)}[r.IntN(5)]
			n := []uint64{0, 1, h.Top(job), h.Top(job) + 1, h.Top(job) - 1, r.Uint64N(20), last, r.Uint64() >> r.IntN(64)}[r.IntN(8)]
			switch r.IntN(12) {
			case 0:
				h.tidy(t)
			case 1:
				d.Crash([]int{r.IntN(3), r.IntN(3)})
				h = open(t, "Crash", d)
			case 2:
				d.Append("token", wrongByChance(r))
				d.Crash([]int{r.IntN(20), r.IntN(20)})
				h = open(t, "torn", d)
			case 3:
				d.Append([]string{"a", "zz"}[r.IntN(2)], []byte("loose"))
			default:
				if n == last && r.IntN(3) > 0 {
					continue
				}
				if h.accept(t, job, n) != api.OK {
					continue
				}
				if n <= rose[job] {
					t.Fatalf("%d was accepted of %d behind %d", n, job, rose[job])
				}
				rose[job] = n
			}
		}
	}
}

// wrongByChance are bytes of which no crash leaves a worker's record.
func wrongByChance(r *rand.Rand) []byte {
	b := file(rec{r.Uint64N(3), r.Uint64N(20)})
	switch r.IntN(4) {
	case 0:
		return b[:r.IntN(len(b))]
	case 1:
		return framed(numbers(r.Uint64N(3), r.Uint64N(20), 1))
	case 2:
		return append([]byte{byte(r.IntN(90))}, b...)
	}
	b[len(b)-1] ^= 1 << r.IntN(8)
	return b
}

// P12.1: files by chance are told as the words tell them.
func TestChanceFiles(t *testing.T) {
	r := rand.New(rand.NewPCG(12, 3))
	for range 6000 {
		var b []byte
		for range r.IntN(9) {
			b = append(b, file(rec{r.Uint64N(4), r.Uint64() >> r.IntN(64)})...)
			switch r.IntN(24) {
			case 0:
				b = append(b, wrongByChance(r)...)
			case 1:
				b = b[:r.IntN(len(b)+1)]
			case 2:
				if len(b) > 0 {
					b[r.IntN(len(b))] ^= 1 << r.IntN(8)
				}
			}
		}
		h := open(t, "by chance", holding(t, b))
		if r.IntN(4) == 0 {
			h.accept(t, r.Uint64N(4), r.Uint64()>>r.IntN(64))
			h.tidy(t)
		}
	}
}

// FuzzToken reads bytes as the file, then accepts, tidies and reads again.
func FuzzToken(f *testing.F) {
	f.Add(file(rec{1, 5}, rec{2, 4}, rec{1, 6}), uint64(1), uint64(6), 0)
	f.Add(file(rec{0, 0}, rec{last, last}), uint64(last), uint64(last), 9)
	f.Add(append(file(rec{1, 5}), framed(numbers(1, 2, 3))...), uint64(0), uint64(0), 3)
	f.Add([]byte("\x01\x80\x00"), uint64(1), uint64(1), 1)
	f.Fuzz(func(t *testing.T, b []byte, job, n uint64, stay int) {
		if len(b) > 20000 {
			return
		}
		for _, b := range [][]byte{b, framed(b), append(file(rec{job, n}), framed(b)...)} {
			d := holding(t, b)
			h := open(t, "fuzz", d)
			h.accept(t, job, n)
			d.Append("token", b)
			d.Crash([]int{stay})
			h = open(t, "fuzz, torn", d)
			h.accept(t, n, job)
			h.tidy(t)
			d.Crash([]int{stay})
			open(t, "fuzz, tidied", d)
		}
	})
}
