package vote_test

import (
	"bytes"
	"encoding/binary"
	"fmt"
	"hash/crc32"
	"math"
	"math/rand/v2"
	"slices"
	"testing"

	"ringer/api"
	"ringer/disk"
	"ringer/vote"
)

const last = math.MaxUint64 // the greatest number

// framed is a record's frame, word for word as layer 3 tells it; also of one that is too long.
func framed(record []byte) []byte {
	text := append(binary.AppendUvarint(nil, uint64(len(record))), record...)
	c := crc32.Checksum(text, crc32.MakeTable(crc32.Castagnoli))
	return binary.LittleEndian.AppendUint32(append([]byte{90}, text...), (c>>15|c<<17)+2726488792)
}

// numbers are numbers' bytes, word for word as layer 1 tells them.
func numbers(l ...uint64) (b []byte) {
	for _, n := range l {
		b = binary.AppendUvarint(b, n)
	}
	return b
}

// voted are the bytes of the file vote, word for word as the chapter tells them.
func voted(p api.Promise) []byte { return framed(numbers(p.Term, p.Vote)) }

// parted are the frames of an image's bytes, so many bytes each, the last one with what is left.
func parted(image []byte, each int) (b []byte) {
	for len(image) > 0 {
		n := min(each, len(image))
		b = append(b, framed(image[:n])...)
		image = image[n:]
	}
	return b
}

// headed is the first frame of a shot whose image is told to have so many bytes.
func headed(s api.Shot, long uint64) []byte { return framed(numbers(s.Index, s.Term, long)) }

// shotted are the bytes of the file shot, word for word as the chapter tells them.
func shotted(s api.Shot) []byte {
	return append(headed(s, uint64(len(s.Image))), parted(s.Image, 4000)...)
}

// unframed is the record whose frame b begins with, and how many bytes that has; 0, if there is none.
func unframed(b []byte) ([]byte, int) {
	if len(b) < 6 {
		return nil, 0
	}
	n, at := binary.Uvarint(b[1:])
	if at <= 0 || n > 4096 || int(n) > len(b)-1-at {
		return nil, 0
	}
	record := b[1+at : 1+at+int(n)]
	if f := framed(record); bytes.HasPrefix(b, f) {
		return record, len(f)
	}
	return nil, 0
}

// taken are the first numbers of a record; also such as are not written shortest.
func taken(record []byte, n int) (l []uint64) {
	for range n {
		number, more := binary.Uvarint(record)
		if more <= 0 {
			number, more = 0, 0
		}
		l = append(l, number)
		record = record[more:]
	}
	return l
}

// promised is the promise of which b is the file, if it is one's: what is read is one's, if its own file is just that.
func promised(b []byte) (p api.Promise, ok bool) {
	record, _ := unframed(b)
	l := taken(record, 2)
	p = api.Promise{Term: l[0], Vote: l[1]}
	if !bytes.Equal(voted(p), b) {
		return api.Promise{}, false
	}
	return p, true
}

// shot is the shot of which b is the file, if it is one's, likewise.
func shot(b []byte) (s api.Shot, ok bool) {
	record, n := unframed(b)
	l := taken(record, 3)
	s = api.Shot{Index: l[0], Term: l[1]}
	for at := n; n > 0; at += n {
		record, n = unframed(b[at:])
		s.Image = append(s.Image, record...)
	}
	if len(s.Image) > 1<<18 || !bytes.Equal(shotted(s), b) {
		return api.Shot{}, false
	}
	return s, true
}

// random are n bytes, always the same ones of one n.
func random(n int) []byte {
	r := rand.New(rand.NewPCG(11, uint64(n)))
	b := make([]byte, n)
	for i := range b {
		b[i] = byte(r.Uint32())
	}
	return b
}

// is fails unless a call tells want.
func is(t *testing.T, what string, e, want api.Errno) {
	t.Helper()
	if e != want {
		t.Fatalf("%s: %d; want %d", what, e, want)
	}
}

// sure writes a file, and syncs it.
func sure(t *testing.T, d *disk.Disk, name string, b []byte) {
	t.Helper()
	is(t, "Replace", d.Replace(name, b), api.OK)
	is(t, "Sync", d.Sync(name), api.OK)
}

// holding is a disk of which one file alone is there.
func holding(t *testing.T, name string, b []byte) *disk.Disk {
	t.Helper()
	d := disk.New()
	sure(t, d, name, b)
	return d
}

// stand fails unless a disk stands as another one does, now and behind some crashes.
func stand(t *testing.T, what string, d, twin *disk.Disk) {
	t.Helper()
	stands(t, what, d, twin)
	for _, stay := range [][]int{nil, {0, 1}, {1}, {1, 1, 1}, {2, 2, 2}, {3, 1, 2, 3}, slices.Repeat([]int{1 << 21}, 64)} {
		d, twin := d.Copy(), twin.Copy()
		d.Crash(stay)
		twin.Crash(stay)
		stands(t, fmt.Sprint(what, "; Crash", stay[:min(len(stay), 4)]), d, twin)
	}
}

func stands(t *testing.T, what string, d, twin *disk.Disk) {
	t.Helper()
	if got, want := d.Names(), twin.Names(); !slices.Equal(got, want) {
		t.Fatalf("%s: Names: %q; want %q", what, got, want)
	}
	if got, want := d.Loose(), twin.Loose(); !slices.Equal(got, want) {
		t.Fatalf("%s: Loose: %q; want %q", what, got, want)
	}
	for _, name := range slices.Concat(twin.Names(), twin.Loose()) {
		got, _ := d.Read(name)
		if want, _ := twin.Read(name); !bytes.Equal(got, want) {
			t.Fatalf("%s: Read(%q): %.60x (%d bytes); want %.60x (%d bytes)", what, name, got, len(got), want, len(want))
		}
		got, there := d.Sure(name)
		if want, ok := twin.Sure(name); !bytes.Equal(got, want) || there != ok {
			t.Fatalf("%s: Sure(%q): %.60x (%d bytes), %v; want %.60x (%d bytes), %v", what, name, got, len(got), there, want, len(want), ok)
		}
	}
}

// put puts a promise, and fails unless the disk stands as the chapter's words tell it.
func put(t *testing.T, d *disk.Disk, p api.Promise) api.Errno {
	t.Helper()
	twin := d.Copy()
	want := twin.Replace("vote", voted(p))
	if want == api.OK {
		twin.Sync("vote")
	}
	is(t, fmt.Sprint("Put ", p), vote.Put(d, p), want)
	stand(t, fmt.Sprint("Put ", p), d, twin)
	return want
}

// keep keeps a shot, and fails unless the disk stands as the chapter's words tell it.
func keep(t *testing.T, d *disk.Disk, s api.Shot) api.Errno {
	t.Helper()
	twin := d.Copy()
	want := api.ErrLong
	if len(s.Image) <= 1<<18 {
		want = twin.Replace("shot", shotted(s))
	}
	if want == api.OK {
		twin.Sync("shot")
	}
	is(t, "Keep "+text(s), vote.Keep(d, s), want)
	stand(t, "Keep "+text(s), d, twin)
	return want
}

// got fails unless Get tells that.
func got(t *testing.T, what string, d *disk.Disk, want api.Promise, wantE api.Errno) {
	t.Helper()
	if p, e := vote.Get(d); p != want || e != wantE {
		t.Fatalf("%s: Get: %d, %d; want %d, %d", what, p, e, want, wantE)
	}
}

// kept fails unless Kept tells that.
func kept(t *testing.T, what string, d *disk.Disk, want api.Shot, wantE api.Errno) {
	t.Helper()
	s, e := vote.Kept(d)
	if s.Index != want.Index || s.Term != want.Term || !bytes.Equal(s.Image, want.Image) || e != wantE {
		t.Fatalf("%s: Kept: %s, %d; want %s, %d", what, text(s), e, text(want), wantE)
	}
	if e != api.OK && s.Image != nil {
		t.Fatalf("%s: Kept: an Image beside %d", what, e)
	}
}

// votes fails unless Get tells of a file of these bytes what the chapter's words do.
func votes(t *testing.T, what string, b []byte) (ok bool) {
	t.Helper()
	p, ok := promised(b)
	e := api.OK
	if !ok {
		e = api.ErrBytes
	}
	got(t, fmt.Sprintf("%s: %.40x (%d bytes)", what, b, len(b)), holding(t, "vote", b), p, e)
	return ok
}

// shots fails unless Kept tells of a file of these bytes what the chapter's words do.
func shots(t *testing.T, what string, b []byte) (ok bool) {
	t.Helper()
	s, ok := shot(b)
	e := api.OK
	if !ok {
		e = api.ErrBytes
	}
	kept(t, fmt.Sprintf("%s: %.40x (%d bytes)", what, b, len(b)), holding(t, "shot", b), s, e)
	return ok
}

func text(s api.Shot) string {
	return fmt.Sprintf("%d/%d/%d:%.4x", s.Index, s.Term, len(s.Image), s.Image)
}

// ends are numbers whose bytes are as few, and as many, as they can be.
var ends = []uint64{0, 1, 2, 127, 128, 300, 1<<14 - 1, 1 << 14, 1 << 32, 1<<63 - 1, 1 << 63, last - 1, last}

// lengths are of images.
var lengths = []int{0, 1, 2, 127, 128, 3999, 4000, 4001, 7999, 8000, 8001, 12000, 100000, 1<<18 - 1, 1 << 18}

// The chapter's examples.
func TestExamples(t *testing.T) {
	d := disk.New()
	got(t, "a new disk", d, api.Promise{}, api.ErrNone)
	kept(t, "a new disk", d, api.Shot{}, api.ErrNone)
	is(t, "Put", vote.Put(d, api.Promise{Term: 3, Vote: 2}), api.OK)
	got(t, "Put", d, api.Promise{Term: 3, Vote: 2}, api.OK)
	d.Crash(nil)
	got(t, "a crash", d, api.Promise{Term: 3, Vote: 2}, api.OK)
}

// P11.1, P11.2: there is nothing without a disk, and that is told first.
func TestNoDisk(t *testing.T) {
	for i, d := range []*disk.Disk{nil, {}, new(disk.Disk)} {
		what := fmt.Sprint("no disk ", i)
		for range 2 {
			is(t, what, vote.Put(d, api.Promise{}), api.ErrNil)
			is(t, what, vote.Put(d, api.Promise{Term: last, Vote: last}), api.ErrNil)
			for _, n := range []int{0, 1, 1 << 18, 1<<18 + 1, 1 << 21} {
				is(t, what, vote.Keep(d, api.Shot{Index: 1, Term: 1, Image: make([]byte, n)}), api.ErrNil)
			}
			got(t, what, d, api.Promise{}, api.ErrNil)
			kept(t, what, d, api.Shot{}, api.ErrNil)
		}
	}
}

// P11.1, P11.2: of a file that is not there, nothing is told, whatever else is, and was.
func TestNoFile(t *testing.T) {
	d := disk.New()
	for _, name := range []string{"Vote", "vote.", "vot", "shots", "log.00000001", "token"} {
		sure(t, d, name, voted(api.Promise{Term: 1, Vote: 1}))
	}
	got(t, "others", d, api.Promise{}, api.ErrNone)
	kept(t, "others", d, api.Shot{}, api.ErrNone)
	is(t, "Put", put(t, d, api.Promise{Term: 1}), api.OK)
	kept(t, "vote alone", d, api.Shot{}, api.ErrNone)
	is(t, "Keep", keep(t, d, api.Shot{Index: 1}), api.OK)
	for _, name := range []string{"vote", "shot"} {
		is(t, "Remove", d.Remove(name), api.OK)
	}
	got(t, "removed", d, api.Promise{}, api.ErrNone)
	kept(t, "removed", d, api.Shot{}, api.ErrNone)
	back := d.Copy()
	back.Crash(nil)
	got(t, "brought back", back, api.Promise{Term: 1}, api.OK)
	kept(t, "brought back", back, api.Shot{Index: 1}, api.OK)
	for _, name := range []string{"vote", "shot"} {
		is(t, "Sync", d.Sync(name), api.OK)
	}
	got(t, "gone", d, api.Promise{}, api.ErrNone)
	kept(t, "gone", d, api.Shot{}, api.ErrNone)
}

// P11.1: what was put is told; the file has just its bytes, and is sure.
func TestPut(t *testing.T) {
	d := disk.New()
	for _, term := range ends {
		for _, to := range ends {
			p := api.Promise{Term: term, Vote: to}
			for _, d := range []*disk.Disk{disk.New(), d} {
				is(t, "Put", put(t, d, p), api.OK)
				b, there := d.Sure("vote")
				if !there || !bytes.Equal(b, voted(p)) || d.Loose() != nil || len(d.Names()) != 1 {
					t.Fatalf("Put %d: %x, %v; Loose %q, Names %q", p, b, there, d.Loose(), d.Names())
				}
				got(t, "Put", d, p, api.OK)
				got(t, "Put, and Get again", d, p, api.OK)
			}
		}
	}
}

// P11.1: the file's bytes, as they are written out.
func TestVoteBytes(t *testing.T) {
	d := disk.New()
	is(t, "Put", vote.Put(d, api.Promise{Term: 300, Vote: 2}), api.OK)
	b, _ := d.Read("vote")
	if want := []byte{90, 3, 0xac, 2, 2}; !bytes.HasPrefix(b, want) || len(b) != 9 {
		t.Errorf("Put: %x; want %x, and 4 bytes behind", b, want)
	}
	is(t, "Keep", vote.Keep(d, api.Shot{Index: 300, Term: 1, Image: []byte("xy")}), api.OK)
	b, _ = d.Read("shot")
	if len(b) != 10+8 || string(b[:6]) != "\x5a\x04\xac\x02\x01\x02" || string(b[10:14]) != "\x5a\x02xy" {
		t.Errorf("Keep: %x", b)
	}
}

// P11.2: what was kept is told; the file has just its bytes, and is sure.
func TestKeep(t *testing.T) {
	d := disk.New()
	for _, n := range slices.Concat(lengths, []int{1, 8000, 0, 4000, 3}) {
		for i, index := range ends {
			s := api.Shot{Index: index, Term: ends[len(ends)-1-i], Image: random(n)}
			if n > 8001 && i%6 != 0 {
				continue
			}
			for _, d := range []*disk.Disk{disk.New(), d} {
				is(t, "Keep", keep(t, d, s), api.OK)
				b, there := d.Sure("shot")
				if !there || !bytes.Equal(b, shotted(s)) || d.Loose() != nil || len(d.Names()) != 1 {
					t.Fatalf("Keep %s: %.40x, %v; Loose %q, Names %q", text(s), b, there, d.Loose(), d.Names())
				}
				kept(t, "Keep", d, s, api.OK)
				kept(t, "Keep, and Kept again", d, s, api.OK)
			}
		}
	}
	for _, image := range [][]byte{nil, {}} {
		s := api.Shot{Index: 5, Term: 4, Image: image}
		is(t, "Keep", keep(t, d, s), api.OK)
		if b, _ := d.Read("shot"); !bytes.Equal(b, framed([]byte{5, 4, 0})) {
			t.Errorf("Keep, of an Image %#v: %x", image, b)
		}
		kept(t, "Keep", d, s, api.OK)
	}
}

// P11.2: images that look like frames, and bear them, are told as they were.
func TestKeepFrames(t *testing.T) {
	s := api.Shot{Index: 1, Term: 1, Image: random(5000)}
	for range 3 {
		s.Image = shotted(s)
		d := disk.New()
		is(t, "Keep", keep(t, d, s), api.OK)
		kept(t, "Keep", d, s, api.OK)
	}
	for _, b := range []byte{0, 90, 255} {
		s.Image = bytes.Repeat([]byte{b}, 9000)
		d := disk.New()
		is(t, "Keep", keep(t, d, s), api.OK)
		kept(t, "Keep", d, s, api.OK)
	}
}

// P11.1, P11.2: the later one is told, be it greater or smaller, whatever the file was.
func TestAgain(t *testing.T) {
	l := []api.Promise{{Term: 1, Vote: 1}, {Term: last, Vote: last}, {}, {Term: 5, Vote: 3}, {Term: 5, Vote: 3}, {Term: 5}, {Term: 4, Vote: 3}}
	d := disk.New()
	for _, p := range l {
		is(t, "Put", put(t, d, p), api.OK)
		got(t, "Put", d, p, api.OK)
	}
	for _, n := range []int{20, 1 << 18, 9000, 8000, 4000, 3999, 1, 0, 1, 4001} {
		s := api.Shot{Index: uint64(n), Term: 2, Image: random(n)}
		is(t, "Keep", keep(t, d, s), api.OK)
		kept(t, "Keep", d, s, api.OK)
	}
	for _, was := range []string{"", "no frames", string(voted(l[1])), string(shotted(api.Shot{Image: random(9000)}))} {
		for kind := range 4 {
			d := loosened(t, kind, []byte(was))
			is(t, "Put", put(t, d, api.Promise{Term: 7, Vote: 1}), api.OK)
			got(t, "Put", d, api.Promise{Term: 7, Vote: 1}, api.OK)
			is(t, "Keep", keep(t, d, api.Shot{Index: 7, Image: []byte("a")}), api.OK)
			kept(t, "Keep", d, api.Shot{Index: 7, Image: []byte("a")}, api.OK)
			if l := d.Loose(); l != nil {
				t.Fatalf("Loose: %q", l)
			}
		}
	}
}

// loosened is a disk with both files of such a content, of which by kinds something is loose, or all, or that they are gone.
func loosened(t *testing.T, kind int, content []byte) *disk.Disk {
	t.Helper()
	d := disk.New()
	for _, name := range []string{"vote", "shot"} {
		is(t, "Replace", d.Replace(name, content), api.OK)
		if kind > 0 {
			is(t, "Sync", d.Sync(name), api.OK)
		}
		if kind > 1 {
			is(t, "Append", d.Append(name, []byte("loose")), api.OK)
		}
		if kind > 2 {
			is(t, "Remove", d.Remove(name), api.OK)
		}
	}
	return d
}

// P11.2: an image that is too long is refused, and the file shot stands as it did.
func TestKeepLong(t *testing.T) {
	for _, n := range []int{1<<18 + 1, 1<<18 + 4000, 1 << 19, 1<<20 + 1} {
		long := api.Shot{Index: 9, Term: 9, Image: make([]byte, n)}
		d := disk.New()
		is(t, "Keep", keep(t, d, long), api.ErrLong)
		kept(t, "Keep", d, api.Shot{}, api.ErrNone)
		s := api.Shot{Index: 1, Term: 2, Image: random(1 << 18)}
		is(t, "Keep", keep(t, d, s), api.OK)
		is(t, "Keep", keep(t, d, long), api.ErrLong)
		kept(t, "Keep", d, s, api.OK)
		is(t, "Append", d.Append("shot", []byte{1}), api.OK)
		is(t, "Keep", keep(t, d, long), api.ErrLong)
		kept(t, "Keep", d, api.Shot{}, api.ErrBytes)
		d.Crash(nil)
		kept(t, "Crash", d, s, api.OK)
	}
}

// P11.1, P11.2: disk.Replace's error is handed on, and nothing is changed.
func TestFullDisk(t *testing.T) {
	d := disk.New()
	for i := range 63 {
		sure(t, d, fmt.Sprint("other", i), []byte{byte(i)})
	}
	one, other := d.Copy(), d.Copy()
	sure(t, d, "one more", nil)
	is(t, "Append", d.Append("one more", []byte("loose")), api.OK)
	for range 2 {
		is(t, "Put", put(t, d, api.Promise{Term: 1}), api.ErrFull)
		is(t, "Keep", keep(t, d, api.Shot{Index: 1, Image: random(4001)}), api.ErrFull)
		is(t, "Keep", keep(t, d, api.Shot{Index: 1, Image: random(1<<18 + 1)}), api.ErrLong)
		got(t, "a full disk", d, api.Promise{}, api.ErrNone)
		kept(t, "a full disk", d, api.Shot{}, api.ErrNone)
	}
	for term := range uint64(3) {
		is(t, "Put", put(t, one, api.Promise{Term: term}), api.OK)
		is(t, "Keep", keep(t, one, api.Shot{Index: 1}), api.ErrFull)
		got(t, "vote is the last one", one, api.Promise{Term: term}, api.OK)
		is(t, "Keep", keep(t, other, api.Shot{Index: term, Image: random(9000)}), api.OK)
		is(t, "Put", put(t, other, api.Promise{Term: term}), api.ErrFull)
		kept(t, "shot is the last one", other, api.Shot{Index: term, Image: random(9000)}, api.OK)
	}
	is(t, "Remove", one.Remove("vote"), api.OK)
	is(t, "Keep", keep(t, one, api.Shot{Index: 1}), api.OK)
	is(t, "Put", put(t, one, api.Promise{}), api.ErrFull)
}

// P11.1, P11.2: a file that is there is replaced, however many others are (a crash may bring more back than there may be new ones).
func TestFullDiskReplace(t *testing.T) {
	d := disk.New()
	is(t, "Put", put(t, d, api.Promise{Term: 1}), api.OK)
	is(t, "Keep", keep(t, d, api.Shot{Index: 1}), api.OK)
	for i := range 62 {
		sure(t, d, fmt.Sprint("other", i), nil)
	}
	is(t, "Remove", d.Remove("other0"), api.OK)
	sure(t, d, "one more", nil)
	d.Crash(nil)
	if n := len(d.Names()); n != 65 {
		t.Fatalf("%d files", n)
	}
	is(t, "Put", put(t, d, api.Promise{Term: 2}), api.OK)
	got(t, "Put", d, api.Promise{Term: 2}, api.OK)
	is(t, "Keep", keep(t, d, api.Shot{Index: 2, Image: random(4001)}), api.OK)
	kept(t, "Keep", d, api.Shot{Index: 2, Image: random(4001)}, api.OK)
}

// P11.1, P11.2: all other files stand as they did, with what is loose of them; Get and Kept change nothing.
func TestOthers(t *testing.T) {
	d := disk.New()
	for i, name := range []string{"a", "log.00000001", "log.00000002", "shots", "token", "vot", "votes", "zz"} {
		sure(t, d, name, []byte(name))
		switch i % 4 {
		case 1:
			is(t, "Append", d.Append(name, []byte("loose")), api.OK)
		case 2:
			is(t, "Replace", d.Replace(name, []byte("loose")), api.OK)
			is(t, "Append", d.Append(name, nil), api.OK)
		case 3:
			is(t, "Remove", d.Remove(name), api.OK)
		}
	}
	stood := d.Copy()
	for n := range uint64(3) {
		is(t, "Put", put(t, d, api.Promise{Term: n}), api.OK)
		is(t, "Keep", keep(t, d, api.Shot{Index: n, Image: random(4001)}), api.OK)
		before := d.Copy()
		got(t, "beside others", d, api.Promise{Term: n}, api.OK)
		kept(t, "beside others", d, api.Shot{Index: n, Image: random(4001)}, api.OK)
		stand(t, "Get and Kept", d, before)
	}
	for _, name := range []string{"vote", "shot"} {
		is(t, "Append", d.Append(name, []byte("spoilt")), api.OK)
	}
	before := d.Copy()
	got(t, "spoilt", d, api.Promise{}, api.ErrBytes)
	kept(t, "spoilt", d, api.Shot{}, api.ErrBytes)
	stand(t, "Get and Kept, spoilt", d, before)
	for _, name := range []string{"vote", "shot"} {
		is(t, "Remove", d.Remove(name), api.OK)
		is(t, "Sync", d.Sync(name), api.OK)
	}
	stand(t, "all others", d, stood)
}

// P11.1, P11.2: what the file is counts, not what is sure of it.
func TestLoose(t *testing.T) {
	d := disk.New()
	is(t, "Replace", d.Replace("vote", voted(api.Promise{Term: 1})), api.OK)
	is(t, "Replace", d.Replace("shot", shotted(api.Shot{Index: 1})), api.OK)
	got(t, "loose", d, api.Promise{Term: 1}, api.OK)
	kept(t, "loose", d, api.Shot{Index: 1}, api.OK)
	is(t, "Put", put(t, d, api.Promise{Term: 2}), api.OK)
	is(t, "Keep", keep(t, d, api.Shot{Index: 2}), api.OK)
	is(t, "Replace", d.Replace("vote", voted(api.Promise{Term: 3})), api.OK)
	is(t, "Replace", d.Replace("shot", shotted(api.Shot{Index: 3})), api.OK)
	got(t, "loose", d, api.Promise{Term: 3}, api.OK)
	kept(t, "loose", d, api.Shot{Index: 3}, api.OK)
	d.Crash(nil)
	got(t, "a crash", d, api.Promise{Term: 2}, api.OK)
	kept(t, "a crash", d, api.Shot{Index: 2}, api.OK)
}

// wrong are bytes of neither file.
func wrong() map[string][]byte {
	one := framed(numbers(3, 2))
	spoilt := slices.Clone(one)
	spoilt[3] ^= 1
	return map[string][]byte{
		"no bytes":              {},
		"a byte":                {0},
		"a mark":                {90},
		"marks":                 bytes.Repeat([]byte{90}, 60),
		"zeros":                 make([]byte, 60),
		"words":                 []byte("no frames at all"),
		"the record alone":      numbers(3, 2),
		"a check that is none":  spoilt,
		"a frame of nothing":    framed(nil),
		"frames of nothing":     bytes.Repeat(framed(nil), 3),
		"a frame of words":      framed([]byte("no numbers, these are words")),
		"one number":            framed(numbers(3)),
		"a number unfinished":   framed([]byte{3, 128}),
		"no shortest numbers":   framed([]byte{0x83, 0, 2, 0}),
		"a byte ahead":          append([]byte{0}, one...),
		"a frame too long":      framed(random(4097)),
		"many frames":           bytes.Repeat(one, 50),
		"a number each":         slices.Concat(framed(numbers(3)), framed(numbers(2)), framed(numbers(0))),
		"random":                random(300),
		"random, much":          random(1 << 20),
		"frames of nothing all": bytes.Repeat(framed(nil), 1<<20/6),
	}
}

// P11.1: Get tells ErrBytes, unless the file is a promise's.
func TestGetRefuses(t *testing.T) {
	one := voted(api.Promise{Term: 3, Vote: 2})
	long := string(bytes.Repeat([]byte{255}, 9))
	l := map[string][]byte{
		"three numbers":               framed(numbers(3, 2, 0)),
		"a byte behind the numbers":   framed(append(numbers(3, 2), 9)),
		"many bytes behind them":      framed(append(numbers(3, 2), random(4000)...)),
		"an open number behind them":  framed(append(numbers(3, 2), 128)),
		"Term not shortest":           framed([]byte{0x83, 0, 2}),
		"Vote not shortest":           framed([]byte{3, 0x82, 0}),
		"0 not shortest":              framed([]byte{0x80, 0, 0x80, 0}),
		"0 not shortest, of Vote":     framed([]byte{0, 0x80, 0x80, 0}),
		"Term beyond all":             framed([]byte(long + "\x02\x01")),
		"Vote beyond all":             framed([]byte("\x01" + long + "\x02")),
		"Term of eleven bytes":        framed([]byte(long + "\x81\x00\x01")),
		"Vote of eleven bytes":        framed([]byte("\x01" + long + "\xff\x01")),
		"two frames":                  slices.Concat(one, one),
		"another frame behind":        slices.Concat(one, voted(api.Promise{Term: 4, Vote: 2})),
		"a frame of nothing behind":   slices.Concat(one, framed(nil)),
		"a frame of nothing ahead":    slices.Concat(framed(nil), one),
		"a byte behind":               append(slices.Clone(one), 0),
		"a mark behind":               append(slices.Clone(one), 90),
		"half a frame behind":         slices.Concat(one, one[:4]),
		"a shot":                      shotted(api.Shot{Index: 1, Term: 2, Image: random(10)}),
		"a shot without an image":     shotted(api.Shot{Index: 1, Term: 2}),
		"a frame in a frame":          framed(one),
		"the length not shortest":     slices.Concat([]byte{90, 0x82, 0}, one[2:]),
		"numbers of one frame each":   slices.Concat(framed(numbers(3)), framed(numbers(2))),
		"a frame spoilt, a good next": slices.Concat(one[:len(one)-1], []byte{one[len(one)-1] ^ 1}, one),
	}
	for what, b := range l {
		if votes(t, what, b) {
			t.Errorf("%s: %x is a promise's", what, b)
		}
	}
	for what, b := range wrong() {
		if votes(t, what, b) {
			t.Errorf("%s: %.40x is a promise's", what, b)
		}
	}
	for _, p := range []api.Promise{{}, {Term: 3, Vote: 2}, {Term: 128, Vote: 300}, {Term: last, Vote: last}} {
		b := voted(p)
		for i := range b {
			if votes(t, "cut", b[:i]) || votes(t, "its end", b[i+1:]) {
				t.Errorf("%x, cut at %d, is a promise's", b, i)
			}
		}
	}
}

// P11.2: Kept tells ErrBytes, unless the file is a shot's: of its first frame.
func TestKeptRefusesHead(t *testing.T) {
	long := string(bytes.Repeat([]byte{255}, 9))
	for _, n := range []int{0, 1, 4, 3999, 4000, 4001, 8000} {
		s := api.Shot{Index: 3, Term: 2, Image: random(n)}
		image := parted(s.Image, 4000)
		good := numbers(3, 2, uint64(n))
		end := good[2:]
		l := map[string][]byte{
			"two numbers":               numbers(3, 2),
			"one number":                numbers(3),
			"no number":                 nil,
			"four numbers":              numbers(3, 2, uint64(n), 0),
			"four numbers, from 0 on":   numbers(0, 3, 2, uint64(n)),
			"bytes behind the numbers":  append(slices.Clone(good), s.Image[:min(n, 10)]...),
			"a byte behind them":        append(slices.Clone(good), 0),
			"an open number":            append(slices.Clone(good), 128),
			"Index not shortest":        slices.Concat([]byte{0x83, 0, 2}, end),
			"Term not shortest":         slices.Concat([]byte{3, 0x82, 0}, end),
			"how many, not shortest":    append(append([]byte{3, 2}, end[:len(end)-1]...), end[len(end)-1]|128, 0),
			"Index beyond all":          slices.Concat([]byte(long+"\x02\x02"), end),
			"Term beyond all":           slices.Concat([]byte("\x03"+long+"\x02"), end),
			"how many, beyond all":      []byte("\x03\x02" + long + "\x02"),
			"how many, of eleven bytes": []byte("\x03\x02" + long + "\x80\x00"),
			"words":                     []byte("no numbers, these are words"),
		}
		for what, head := range l {
			b := append(framed(head), image...)
			_, ok := shot(b)
			// Of no image there are no bytes that could stand behind the numbers.
			if shots(t, fmt.Sprintf("%s, of %d", what, n), b); ok && !(n == 0 && what == "bytes behind the numbers") {
				t.Errorf("%s, of %d: %x is a shot's", what, n, head)
			}
		}
	}
	for what, b := range wrong() {
		if shots(t, what, b) {
			t.Errorf("%s: %.40x is a shot's", what, b)
		}
	}
	shots(t, "a promise", voted(api.Promise{Term: 3, Vote: 2}))
	shots(t, "a promise, and an empty image", voted(api.Promise{Term: 3}))
}

// P11.2: Kept tells ErrBytes, if the first frame tells another number of bytes than there are, or too great a one.
func TestKeptRefusesHowMany(t *testing.T) {
	tells := slices.Concat(ends, []uint64{3, 3998, 3999, 4000, 4001, 7999, 8000, 8001, 1<<18 - 1, 1 << 18, 1<<18 + 1, 1 << 20, 1 << 31, 1<<32 - 1, 1<<32 + 1, 1<<63 + 1, last - 3999, last - 4000})
	for _, n := range slices.Concat(lengths, []int{3, 1<<18 + 1, 1<<18 + 4000, 1 << 19}) {
		s := api.Shot{Index: 3, Term: 2, Image: random(n)}
		image := parted(s.Image, 4000)
		for _, long := range slices.Concat(tells, []uint64{uint64(n), uint64(n) + 1, uint64(n) - 1, uint64(n) + 1<<32, uint64(n) + 1<<63, -uint64(n)}) {
			want := long == uint64(n) && n <= 1<<18
			if shots(t, fmt.Sprintf("%d bytes, told as %d", n, long), append(headed(s, long), image...)) != want {
				t.Fatalf("%d bytes, told as %d: %v", n, long, !want)
			}
		}
	}
}

// P11.2: Kept tells ErrBytes, unless the frames of the image are just those that the chapter names.
func TestKeptRefusesParts(t *testing.T) {
	for _, n := range []int{0, 1, 2, 3999, 4000, 4001, 8000, 8001, 12000, 1 << 18} {
		s := api.Shot{Index: 3, Term: 2, Image: random(n)}
		head := headed(s, uint64(n))
		good := shotted(s)
		cut := func(at int) []byte {
			return slices.Concat(head, parted(s.Image[:at], 4000), parted(s.Image[at:], 4000))
		}
		l := map[string][]byte{
			"good":                       good,
			"an empty frame behind":      slices.Concat(good, framed(nil)),
			"two empty frames behind":    slices.Concat(good, framed(nil), framed(nil)),
			"a frame too many":           slices.Concat(good, framed([]byte{1})),
			"a full frame too many":      slices.Concat(good, framed(random(4000))),
			"a second head behind":       slices.Concat(good, head),
			"two heads":                  slices.Concat(head, good),
			"itself behind":              slices.Concat(good, good),
			"no head":                    parted(s.Image, 4000),
			"an empty frame ahead":       slices.Concat(framed(nil), good),
			"an empty frame behind head": slices.Concat(head, framed(nil), parted(s.Image, 4000)),
			"no image":                   head,
			"a byte behind":              append(slices.Clone(good), 0),
			"a mark behind":              append(slices.Clone(good), 90),
			"half a frame behind":        slices.Concat(good, framed(random(20))[:10]),
			"the last byte is gone":      good[:len(good)-1],
			"the last four are gone":     good[:len(good)-4],
			"frames of 3999":             slices.Concat(head, parted(s.Image, 3999)),
			"frames of 4001":             slices.Concat(head, parted(s.Image, 4001)),
			"frames of 4096":             slices.Concat(head, parted(s.Image, 4096)),
			"frames of 1000":             slices.Concat(head, parted(s.Image, 1000)),
			"a byte first":               cut(min(1, n)),
			"a byte last":                cut(max(0, n-1)),
			"halves":                     cut(n / 2),
			"what is left comes first":   cut(n % 4000),
			"a part of 4097":             slices.Concat(head, framed(s.Image[:min(n, 4097)]), parted(s.Image[min(n, 4097):], 4000)),
		}
		for at := 0; at < n; at += 4000 {
			name := fmt.Sprint("an empty frame at ", at)
			l[name] = slices.Concat(head, parted(s.Image[:at], 4000), framed(nil), parted(s.Image[at:], 4000))
			end := min(at+4000, n)
			l[fmt.Sprint("no frame at ", at)] = slices.Concat(head, parted(s.Image[:at], 4000), parted(s.Image[end:], 4000))
			l[fmt.Sprint("twice the frame at ", at)] = slices.Concat(head, parted(s.Image[:end], 4000), framed(s.Image[at:end]), parted(s.Image[end:], 4000))
			spoilt := slices.Clone(good)
			spoilt[len(head)+len(parted(s.Image[:at], 4000))+5] ^= 64
			l[fmt.Sprint("spoilt at ", at)] = spoilt
		}
		for what, b := range l {
			// A cut is the shot's own file, where it parts the image as that does.
			if ok := shots(t, fmt.Sprintf("%s, of %d", what, n), b); ok != bytes.Equal(b, good) {
				t.Errorf("%s, of %d: %v", what, n, ok)
			}
		}
	}
}

// P11.2: a file that is cut anywhere is none.
func TestKeptCut(t *testing.T) {
	for _, n := range []int{0, 1, 30, 4000, 4020} {
		b := shotted(api.Shot{Index: 300, Term: last, Image: random(n)})
		for i := range b {
			if i < 80 || i > len(b)-80 || i%97 == 0 {
				if shots(t, "cut", b[:i]) {
					t.Fatalf("%d of %d bytes are a shot's", i, len(b))
				}
			}
		}
	}
}

// P11.3: any one byte of the first frame changed, but for the one that tells how long the text is, is ErrBytes; so is the last byte cut off.
func TestChangedByte(t *testing.T) {
	for _, p := range []api.Promise{{}, {Term: 3, Vote: 2}, {Term: 127, Vote: 128}, {Term: last, Vote: last}} {
		changed(t, "vote", voted(p), len(voted(p)), func(what string, d *disk.Disk) {
			got(t, what, d, api.Promise{}, api.ErrBytes)
		})
	}
	for _, n := range []int{0, 1, 128, 4000, 9000, 1 << 18} {
		for _, index := range []uint64{1, last} {
			s := api.Shot{Index: index, Term: index / 2, Image: random(n)}
			first := len(headed(s, uint64(n)))
			if n == 1<<18 {
				first = 2
			}
			changed(t, "shot", shotted(s), first, func(what string, d *disk.Disk) {
				kept(t, what, d, api.Shot{}, api.ErrBytes)
			})
		}
	}
}

// changed asks for each other file that one change of the first bytes makes, and for the one without its last byte.
func changed(t *testing.T, name string, b []byte, first int, ask func(what string, d *disk.Disk)) {
	t.Helper()
	ask("the last byte is cut off", holding(t, name, b[:len(b)-1]))
	for i := range first {
		for c := 1; i != 1 && c < 256; c++ {
			other := slices.Clone(b)
			other[i] ^= byte(c)
			ask(fmt.Sprintf("the byte %d of %.30x is %d", i, b, other[i]), holding(t, name, other))
		}
	}
}

// P11.1, P11.2: with the byte changed that tells how long the text is, nothing is told but what the words do.
func TestChangedLength(t *testing.T) {
	for _, p := range []api.Promise{{}, {Term: 3, Vote: 2}, {Term: last, Vote: last}} {
		for c := range 256 {
			b := voted(p)
			b[1] = byte(c)
			votes(t, "another length", b)
			b = shotted(api.Shot{Index: p.Term, Term: p.Vote, Image: random(300)})
			b[1] = byte(c)
			shots(t, "another length", b)
		}
	}
}

// P11.3: what was put and kept last is told, whatever crash comes.
func TestCrash(t *testing.T) {
	stays := [][]int{nil, {}, {0}, {1}, {0, 0}, {0, 1}, {1, 0}, {1, 1}, {2, 2}, {-1, -5}, {100, 100, 100}, {1 << 30, 1 << 30}, {math.MaxInt, math.MinInt}}
	for kind := range 4 {
		d := loosened(t, kind, []byte("what was"))
		for i, stay := range slices.Concat(stays, stays) {
			p := api.Promise{Term: uint64(i), Vote: uint64(i % 3)}
			s := api.Shot{Index: uint64(i), Term: uint64(i + 1), Image: random(i * 399 % 9001)}
			is(t, "Put", put(t, d, p), api.OK)
			is(t, "Keep", keep(t, d, s), api.OK)
			for _, more := range stays {
				c := d.Copy()
				c.Crash(more)
				got(t, fmt.Sprint("Crash", more), c, p, api.OK)
				kept(t, fmt.Sprint("Crash", more), c, s, api.OK)
			}
			d.Crash(stay)
			d.Crash(stay)
			got(t, fmt.Sprint("Crash", stay), d, p, api.OK)
			kept(t, fmt.Sprint("Crash", stay), d, s, api.OK)
		}
	}
}

// P11.3: a crash behind the one, ahead of the other, leaves each as it was put last.
func TestCrashBetween(t *testing.T) {
	d := disk.New()
	is(t, "Put", put(t, d, api.Promise{Term: 1}), api.OK)
	d.Crash(nil)
	kept(t, "Crash", d, api.Shot{}, api.ErrNone)
	is(t, "Keep", keep(t, d, api.Shot{Index: 2, Image: random(8001)}), api.OK)
	is(t, "Put", put(t, d, api.Promise{Term: 3}), api.OK)
	d.Crash([]int{0})
	got(t, "Crash", d, api.Promise{Term: 3}, api.OK)
	kept(t, "Crash", d, api.Shot{Index: 2, Image: random(8001)}, api.OK)
	is(t, "Keep", keep(t, d, api.Shot{Index: 2, Image: random(1<<18 + 1)}), api.ErrLong)
	d.Crash([]int{1, 1})
	kept(t, "Crash", d, api.Shot{Index: 2, Image: random(8001)}, api.OK)
}

// What is handed in is neither changed nor kept; what is told is new memory.
func TestMemory(t *testing.T) {
	for _, n := range []int{1, 3999, 4000, 4001, 8000, 1 << 18} {
		want := api.Shot{Index: 1, Term: 2, Image: random(n)}
		in := append(make([]byte, 0, n+9), want.Image...)
		d := disk.New()
		is(t, "Keep", vote.Keep(d, api.Shot{Index: 1, Term: 2, Image: in}), api.OK)
		if !bytes.Equal(in, want.Image) || !bytes.Equal(in[n:n+9], make([]byte, 9)) {
			t.Fatalf("Keep changed what was handed in, of %d bytes", n)
		}
		clear(in)
		kept(t, "what was handed in is changed", d, want, api.OK)
		for range 2 {
			s, _ := vote.Kept(d)
			other, _ := vote.Kept(d)
			clear(s.Image)
			_ = append(s.Image, 1, 2, 3)
			if !bytes.Equal(other.Image, want.Image) {
				t.Fatalf("two Images share memory, of %d bytes", n)
			}
			kept(t, "what was told is changed", d, want, api.OK)
		}
		c := d.Copy()
		is(t, "Keep", keep(t, c, api.Shot{Index: 3}), api.OK)
		kept(t, "a copy is changed", d, want, api.OK)
	}
}

// scramble are bytes of either file that are near to a good one.
func scramble(r *rand.Rand, s api.Shot) []byte {
	each := []int{4000, 4000, 4000, 3999, 4001, 4096, 10}[r.IntN(7)]
	long := uint64(len(s.Image) + []int{0, 0, 0, 1, -1, 4000}[r.IntN(6)])
	b := append(headed(s, long), parted(s.Image, each)...)
	switch r.IntN(8) {
	case 0:
		b = b[:r.IntN(len(b))]
	case 1:
		b[r.IntN(len(b))] ^= 1 << r.IntN(8)
	case 2:
		b = append(b, framed(random(r.IntN(3)))...)
	case 3:
		b = voted(api.Promise{Term: s.Term, Vote: s.Index})
	}
	return b
}

// P11.1, P11.2: files by chance are told as the words tell them.
func TestChance(t *testing.T) {
	r := rand.New(rand.NewPCG(11, 2))
	for range 4000 {
		n := []int{0, r.IntN(20), r.IntN(300), 3995 + r.IntN(10), 7995 + r.IntN(10), r.IntN(13000)}[r.IntN(6)]
		s := api.Shot{Index: r.Uint64() >> r.IntN(64), Term: r.Uint64() >> r.IntN(64), Image: random(n)}
		b := scramble(r, s)
		votes(t, "by chance", b)
		shots(t, "by chance", b)
	}
}

// P11.1 to P11.3: rows of calls and crashes by chance.
func TestChanceRows(t *testing.T) {
	r := rand.New(rand.NewPCG(11, 3))
	for range 60 {
		d := disk.New()
		var p api.Promise
		var s api.Shot
		pe, se := api.ErrNone, api.ErrNone
		for range 40 {
			switch r.IntN(5) {
			case 0, 1:
				p = api.Promise{Term: r.Uint64() >> r.IntN(64), Vote: r.Uint64N(8)}
				pe = put(t, d, p)
			case 2:
				s = api.Shot{Index: r.Uint64() >> r.IntN(64), Term: r.Uint64N(8), Image: random(r.IntN(9000))}
				se = keep(t, d, s)
			case 3:
				is(t, "Keep", keep(t, d, api.Shot{Image: make([]byte, 1<<18+1)}), api.ErrLong)
			case 4:
				d.Crash([]int{r.IntN(3), r.IntN(3)})
			}
			got(t, "by chance", d, p, pe)
			kept(t, "by chance", d, s, se)
		}
	}
}

// FuzzVote reads bytes as either file, and puts and keeps what they tell.
func FuzzVote(f *testing.F) {
	f.Add(voted(api.Promise{Term: 3, Vote: 2}), uint64(3), uint64(2))
	f.Add(shotted(api.Shot{Index: 300, Term: 2, Image: random(30)}), uint64(0), uint64(last))
	f.Add(shotted(api.Shot{Index: 1, Term: 2}), uint64(1), uint64(128))
	f.Add(append(headed(api.Shot{}, last), parted(random(50), 20)...), uint64(1), uint64(127))
	f.Fuzz(func(t *testing.T, b []byte, m, n uint64) {
		if len(b) > 20000 {
			return
		}
		votes(t, "fuzz", b)
		shots(t, "fuzz", b)
		votes(t, "fuzz, framed", framed(b))
		shots(t, "fuzz, framed", append(framed(b), parted(b, 4000)...))
		d := disk.New()
		is(t, "Put", put(t, d, api.Promise{Term: m, Vote: n}), api.OK)
		is(t, "Keep", keep(t, d, api.Shot{Index: n, Term: m, Image: b}), api.OK)
		got(t, "fuzz", d, api.Promise{Term: m, Vote: n}, api.OK)
		kept(t, "fuzz", d, api.Shot{Index: n, Term: m, Image: b}, api.OK)
	})
}
