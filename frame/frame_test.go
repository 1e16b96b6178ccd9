package frame_test

import (
	"bytes"
	"encoding/binary"
	"hash/crc32"
	"math/rand/v2"
	"slices"
	"strings"
	"testing"

	"ringer/api"
	"ringer/frame"
)

// summed are bytes with their masked check behind, the lowest byte first.
func summed(text []byte) []byte {
	c := crc32.Checksum(text, crc32.MakeTable(crc32.Castagnoli))
	return binary.LittleEndian.AppendUint32(slices.Clone(text), (c>>15|c<<17)+2726488792)
}

// framed is a record's frame, word for word as the document tells it; also of one that is too long.
func framed(record []byte) []byte {
	return slices.Concat([]byte{90}, summed(slices.Concat(binary.AppendUvarint(nil, uint64(len(record))), record)))
}

// random are n bytes, always the same ones of one n.
func random(n int) []byte {
	r := rand.New(rand.NewPCG(3, uint64(n)))
	b := make([]byte, n)
	for i := range b {
		b[i] = byte(r.Uint32())
	}
	return b
}

// records are those that are tried, some of which look like frames, or bear them.
func records() [][]byte {
	l := [][]byte{nil, {}, {0}, {90}, {255}, []byte("ab"), []byte("123456789"), {90, 0}, {90, 90, 90, 90, 90, 90}, framed(nil), framed([]byte("ab"))}
	for _, n := range []int{1, 2, 3, 4, 5, 10, 89, 90, 91, 126, 127, 128, 129, 255, 256, 300, 2000, api.MaxText - 1, api.MaxText} {
		l = append(l, random(n), make([]byte, n), bytes.Repeat([]byte{90}, n), bytes.Repeat([]byte{255}, n))
	}
	return append(l, bytes.Repeat(framed([]byte("in it")), 20))
}

// noFrames are bytes that no frame begins; most begin like one.
func noFrames() [][]byte {
	one := framed([]byte("one more"))
	other := slices.Clone(one)
	other[len(other)-1] ^= 1
	return [][]byte{
		nil, {}, {0}, {89}, {91}, {90}, {90, 0}, {90, 90}, {90, 255}, {90, 128}, {90, 128, 0}, {90, 0, 0, 0, 0, 0},
		bytes.Repeat([]byte{90}, 9), bytes.Repeat([]byte{90}, 200), bytes.Repeat([]byte{0}, 100), bytes.Repeat([]byte{255}, 100),
		framed(nil)[:5], one[1:], one[:3], one[:len(one)-4], one[:len(one)-1], other,
		slices.Concat(one[:len(one)-1], one), slices.Concat([]byte{0}, one), slices.Concat([]byte{90}, one), slices.Concat(other, one),
		slices.Concat([]byte{90}, summed([]byte("\x82\x00ab"))), framed(make([]byte, api.MaxText+1)),
	}
}

// none fails unless First, All and Scan tell nothing of b.
func none(t *testing.T, b []byte) {
	t.Helper()
	if record, n, ok := frame.First(b); record != nil || n != 0 || ok {
		t.Errorf("First(%.20x..), of %d bytes: %.20x, %d, %v", b, len(b), record, n, ok)
	}
	told(t, b, nil)
}

// told fails unless All and Scan tell just those records of b.
func told(t *testing.T, b []byte, want [][]byte) {
	t.Helper()
	at, i := 0, 0
	for place, record := range frame.All(b) {
		if i == len(want) || place != at || !bytes.Equal(record, want[i]) {
			t.Fatalf("All, of %d bytes: the record %d at %d: %.20x.., of %d bytes; there are %d", len(b), i, place, record, len(record), len(want))
		}
		at += len(framed(want[i]))
		i++
	}
	l, good := frame.Scan(b)
	if i != len(want) || good != at || !slices.EqualFunc(l, want, bytes.Equal) {
		t.Fatalf("of %d bytes: All %d records; Scan %d, %d bytes; want %d, %d bytes", len(b), i, len(l), good, len(want), at)
	}
}

// The chapter's examples.
func TestExamples(t *testing.T) {
	for _, no := range [][]byte{nil, {}} {
		if b, e := frame.Put(no); len(b) != 6 || e != api.OK {
			t.Errorf("Put(none): %x, %d", b, e)
		}
		if l, good := frame.Scan(no); len(l) != 0 || good != 0 {
			t.Errorf("Scan(none): %x, %d", l, good)
		}
	}
	a, _ := frame.Put([]byte("a"))
	b, _ := frame.Put([]byte("b"))
	l, good := frame.Scan(slices.Concat(a, b, []byte{0x5a, 0}))
	if len(l) != 2 || string(l[0]) != "a" || string(l[1]) != "b" || good != len(a)+len(b) {
		t.Errorf("%q, %d", l, good)
	}
}

// P3.1: frames whose bytes are told here.
func TestPutKnown(t *testing.T) {
	for record, want := range map[string]string{
		"":                          "\x5a\x00\xd2\x8f\x25\x49",
		"a":                         "\x5a\x01a\xb5\xcd\x0b\xa2",
		"ab":                        "\x5a\x02ab\x69\x64\xa9\x01",
		"Z":                         "\x5a\x01Z\xe0\x9a\x20\xdd",
		"123456789":                 "\x5a\x09123456789\x3d\x58\x43\xd8",
		strings.Repeat("\x00", 127): "\x5a\x7f" + strings.Repeat("\x00", 127) + "\xc8\x79\x10\xd7",
		strings.Repeat("\x00", 128): "\x5a\x80\x01" + strings.Repeat("\x00", 128) + "\x50\x36\x7d\xd8",
	} {
		if b, e := frame.Put([]byte(record)); string(b) != want || e != api.OK {
			t.Errorf("Put(%.20q): %x, %d; want %x", record, b, e, want)
		}
		if r, n, ok := frame.First([]byte(want)); string(r) != record || n != len(want) || !ok {
			t.Errorf("First(%x): %.20q, %d, %v", want, r, n, ok)
		}
	}
}

// P3.1: a record's frame; P3.2: it alone.
func TestPut(t *testing.T) {
	for _, record := range records() {
		b, e := frame.Put(record)
		if !bytes.Equal(b, framed(record)) || e != api.OK {
			t.Errorf("Put(%.20x..), of %d bytes: %.20x.., %d", record, len(record), b, e)
		}
		told(t, b, [][]byte{record})
	}
}

// P3.1: ErrLong, from one byte more than MaxText on.
func TestPutRefusesLong(t *testing.T) {
	for _, n := range []int{api.MaxText + 1, api.MaxText + 2, 2 * api.MaxText, 1 << 16, api.MaxFile} {
		if b, e := frame.Put(make([]byte, n)); b != nil || e != api.ErrLong {
			t.Errorf("Put of %d bytes: %.20x, %d", n, b, e)
		}
	}
}

// P3.1: the first record, whatever stands behind, or in the room behind the bytes.
func TestFirst(t *testing.T) {
	for _, want := range records() {
		f := framed(want)
		for _, behind := range append(noFrames(), framed(nil), framed([]byte("two")), f) {
			b := slices.Concat(f, behind)
			record, n, ok := frame.First(b)
			if !bytes.Equal(record, want) || n != len(f) || !ok {
				t.Fatalf("%.20x.., of %d bytes, ahead of %.20x: %.20x, %d, %v", want, len(want), behind, record, n, ok)
			}
			if record, n, ok := frame.First(b[:len(f)-1]); record != nil || n != 0 || ok {
				t.Fatalf("%.20x.., of %d bytes, less one: %.20x, %d, %v", want, len(want), record, n, ok)
			}
		}
	}
}

// P3.1, P3.2: bytes that no frame begins.
func TestNoFrame(t *testing.T) {
	for _, b := range noFrames() {
		none(t, b)
	}
}

// P3.1: a frame's first byte is 90.
func TestFirstByte(t *testing.T) {
	for _, record := range [][]byte{nil, []byte("ab"), random(128)} {
		for c := range 256 {
			b := framed(record)
			b[0] = byte(c)
			if c != 90 {
				none(t, b)
				none(t, slices.Concat(b, framed(record)))
			}
		}
	}
}

// P3.1: a text's number is as short as it can be, and tells of at most MaxText bytes, all of which there are; though the check be the right one.
func TestNumberOfText(t *testing.T) {
	ab := framed([]byte("ab"))
	for _, text := range []string{
		"\x80\x00", "\x80\x80\x00", "\x82\x00ab", "\x82\x80\x00ab", "\x82\x80\x80\x80\x80\x80\x80\x80\x80\x00ab", "\xff\xff\xff\xff\xff\xff\xff\xff\xff\x02ab",
		"\x84\x80\x00", "\xff\x00" + strings.Repeat("x", 127), "\x80", "\xff", "\x81\x20" + strings.Repeat("x", api.MaxText+1), "\xff\xff\xff\xff\xff\xff\xff\xff\xff\x01",
	} {
		b := slices.Concat([]byte{90}, summed([]byte(text)))
		none(t, b)
		none(t, slices.Concat(b, ab))
	}
	// A longer number with the check of the shortest one.
	none(t, slices.Concat([]byte("\x5a\x82\x00ab"), ab[4:]))
	for _, more := range []int{1, 2, 3, 4, 5, 6, 127} {
		record := random(10)
		text := slices.Concat([]byte{byte(len(record) + more)}, record)
		none(t, slices.Concat([]byte{90}, summed(text)))
	}
	for _, n := range []int{api.MaxText + 1, api.MaxText + 2, 2 * api.MaxText, 1 << 16} {
		none(t, framed(random(n)))
		none(t, slices.Concat(framed(random(n)), ab))
	}
}

// P3.1: a check of which any one byte is another, of which two are changed about, or that is another one.
func TestOtherCheck(t *testing.T) {
	for _, record := range [][]byte{nil, []byte("a"), []byte("123456789"), random(127), random(128)} {
		for place := range 4 {
			for d := 1; d < 256; d++ {
				b := framed(record)
				b[len(b)-4+place] ^= byte(d)
				none(t, b)
				none(t, slices.Concat(b, framed(record)))
			}
		}
		b := framed(record)
		slices.Reverse(b[len(b)-4:])
		none(t, b)
		text := b[1 : len(b)-4]
		plain := crc32.Checksum(text, crc32.MakeTable(crc32.Castagnoli))
		none(t, slices.Concat([]byte{90}, binary.LittleEndian.AppendUint32(slices.Clone(text), plain)))
		// The number of the record's bytes is of what is checked, the byte 90 is not.
		alone, all := summed(record), summed(b[:len(b)-4])
		none(t, slices.Concat(b[:len(b)-4], alone[len(alone)-4:]))
		none(t, slices.Concat(b[:len(b)-4], all[len(all)-4:]))
	}
}

// P3.1: a frame that is cut anywhere.
func TestCut(t *testing.T) {
	for _, record := range records() {
		f := framed(record)
		for k := range f {
			if k < 10 || k > len(f)-10 || k%97 == 0 {
				none(t, f[:k])
				none(t, slices.Clone(f[:k]))
			}
		}
	}
}

// files are rows of records.
func files() [][][]byte {
	l := [][][]byte{nil, records(), {nil}, {nil, nil, nil}, {[]byte("a"), nil, []byte("b")}, {[]byte("same"), []byte("same"), []byte("same")}}
	for n := 1; n <= 12; n++ {
		var file [][]byte
		for i := range n {
			file = append(file, random(40*i+n))
		}
		l = append(l, file)
	}
	return l
}

// written are the records' frames, one behind the other.
func written(file [][]byte) []byte {
	var b []byte
	for _, record := range file {
		b = append(b, framed(record)...)
	}
	return b
}

// P3.2: all records of a file, whatever stands behind that is no frame.
func TestScan(t *testing.T) {
	for _, file := range files() {
		for _, behind := range noFrames() {
			told(t, slices.Concat(written(file), behind), file)
		}
	}
}

// P3.2: files as long as they may be, of the shortest records and of the longest ones.
func TestScanOfMuch(t *testing.T) {
	for _, record := range [][]byte{nil, []byte("x"), random(api.MaxText)} {
		file := slices.Repeat([][]byte{record}, api.MaxFile/len(framed(record)))
		told(t, slices.Concat(written(file), []byte{90}), file)
	}
}

// P3.2: going over the records is left at any of them, and begun anew.
func TestAllIsLeft(t *testing.T) {
	for _, file := range files() {
		all := frame.All(slices.Concat(written(file), []byte{90, 0}))
		for stop := range len(file) {
			i := 0
			for _, record := range all {
				if !bytes.Equal(record, file[i]) {
					t.Fatalf("left at %d: the record %d is %.20x", stop, i, record)
				}
				if i == stop {
					break
				}
				i++
			}
			if i != stop {
				t.Fatalf("left at %d, of %d: %d", stop, len(file), i)
			}
		}
		i := 0
		for range all {
			i++
		}
		if i != len(file) {
			t.Fatalf("behind leaving: %d, want %d", i, len(file))
		}
	}
}

// P3.2: going over records within going over them.
func TestAllWithin(t *testing.T) {
	b := written([][]byte{[]byte("a"), nil, []byte("ccc")})
	all := frame.All(b)
	var places []int
	for at := range all {
		for within := range all {
			places = append(places, at, within)
		}
	}
	if want := []int{0, 0, 0, 7, 0, 13, 7, 0, 7, 7, 7, 13, 13, 0, 13, 7, 13, 13}; !slices.Equal(places, want) {
		t.Errorf("%d, want %d", places, want)
	}
}

// An iterator is never nil: where there is nothing to tell it goes over nothing.
func TestAllIsNeverNil(t *testing.T) {
	for _, b := range noFrames() {
		if frame.All(b) == nil {
			t.Errorf("nil of %.20x", b)
		}
	}
}

// What is handed in is neither changed nor kept.
func TestNothingIsChangedOrKept(t *testing.T) {
	room := slices.Concat([]byte("record"), make([]byte, 20))
	f, _ := frame.Put(room[:6])
	if string(room) != "record"+strings.Repeat("\x00", 20) {
		t.Errorf("changed: %q", room)
	}
	clear(room)
	if string(f) != string(framed([]byte("record"))) {
		t.Errorf("kept: %q", f)
	}
	file := [][]byte{[]byte("first"), nil, []byte("third")}
	b := written(file)
	record, _, _ := frame.First(b)
	all := frame.All(b)
	l, _ := frame.Scan(b)
	if !bytes.Equal(b, written(file)) {
		t.Errorf("changed: %q", b)
	}
	clear(b)
	if string(record) != "first" || !slices.EqualFunc(l, file, bytes.Equal) {
		t.Errorf("kept: %q, %q", record, l)
	}
	i := 0
	for _, record := range all {
		if !bytes.Equal(record, file[i]) {
			t.Errorf("kept: %q", record)
		}
		i++
	}
	if i != len(file) {
		t.Errorf("kept: %d records", i)
	}
}

// What is told is new memory, each record of its own.
func TestToldIsNewMemory(t *testing.T) {
	file := [][]byte{[]byte("first"), []byte("other"), []byte("third")}
	b := written(file)
	record, _, _ := frame.First(b)
	clear(append(record, "more"...))
	clear(record)
	all := frame.All(b)
	for range 2 {
		i := 0
		for _, record := range all {
			if !bytes.Equal(record, file[i]) {
				t.Errorf("the record %d: %q", i, record)
			}
			clear(append(record, "more"...))
			clear(record)
			i++
		}
	}
	l, _ := frame.Scan(b)
	for i, record := range l {
		if !bytes.Equal(record, file[i]) {
			t.Errorf("the record %d: %q", i, record)
		}
		clear(append(record, bytes.Repeat([]byte{1}, 100)...))
		clear(record)
	}
	if !bytes.Equal(b, written(file)) {
		t.Errorf("shared: %q", b)
	}
	one, _ := frame.Put([]byte("one"))
	clear(one)
	if again, _ := frame.Put([]byte("one")); !bytes.Equal(again, framed([]byte("one"))) {
		t.Errorf("shared: %x", again)
	}
}

// behinds are what stands behind a last frame that is cut, or spoilt: nothing, what is no frame, good frames.
func behinds() [][]byte {
	good := written([][]byte{[]byte("good"), nil, random(200)})
	return [][]byte{nil, {0}, {90}, {90, 0}, framed(nil), framed([]byte("good")), good, bytes.Repeat(framed([]byte("many")), 400)}
}

// aheads are the records ahead of such a frame.
func aheads() [][][]byte {
	return [][][]byte{nil, {nil}, {[]byte("a"), nil, random(130)}}
}

// P3.3: of frames of which the last one is cut just the others are told.
func TestLastIsCut(t *testing.T) {
	for _, ahead := range aheads() {
		for _, record := range [][]byte{nil, []byte("x"), []byte("123456789"), random(40), make([]byte, 60), random(127), random(128), random(300)} {
			f := framed(record)
			told(t, written(ahead), ahead)
			for k := 1; k < len(f); k++ {
				for _, behind := range behinds() {
					told(t, slices.Concat(written(ahead), f[:k], behind), ahead)
				}
			}
		}
	}
}

// spoilt is b with those bits turned, from that one on, of each byte the lowest one first; false, if not all of these are b's.
func spoilt(b []byte, from int, pattern uint32) ([]byte, bool) {
	other := slices.Clone(b)
	for bit := range 32 {
		if pattern>>bit&1 == 0 {
			continue
		}
		place := from + bit
		if place >= 8*len(b) {
			return nil, false
		}
		other[place/8] ^= 1 << (place % 8)
	}
	return other, true
}

// patterns are bits that stand within 32: one, the two ends, all, the division's, some more.
func patterns() []uint32 {
	l := []uint32{1, 3, 0x80, 0xff, 0x8001, 0xffff, 1 | 1<<31, 0x7fffffff, 0xffffffff, 0x82f63b78, 0x1edc6f41, 0x80808081, 0x55555555}
	r := rand.New(rand.NewPCG(3, 1))
	for range 10 {
		l = append(l, r.Uint32()>>r.UintN(32)|1)
	}
	return l
}

// places are bits of n bytes: all, of many those at the ends, and some between.
func places(n int) []int {
	var l []int
	for from := range 8 * n {
		if n <= 16 || from < 9 || from >= 8*n-33 || from%1009 == 0 {
			l = append(l, from)
		}
	}
	return l
}

// P3.3: of frames of which the last one is spoilt in its record's bytes, by bits that stand within 32, just the others are told, whatever stands behind.
func TestLastIsSpoilt(t *testing.T) {
	for _, record := range [][]byte{{0}, []byte("xy"), random(3), make([]byte, 4), random(5), framed(nil), random(16), random(127), random(128), random(api.MaxText)} {
		ahead, behind, tries := aheads(), behinds(), 0
		for _, from := range places(len(record)) {
			for _, p := range patterns() {
				other, ok := spoilt(record, from, p)
				if !ok {
					continue
				}
				b := framed(record)
				copy(b[len(b)-4-len(record):], other)
				file := ahead[tries%len(ahead)]
				told(t, slices.Concat(written(file), b, behind[tries/len(ahead)%len(behind)]), file)
				tries++
			}
		}
		if tries < len(ahead)*len(behind) {
			t.Errorf("%d tries of %d bytes", tries, len(record))
		}
	}
}

// P3.3: a single bit of the record is turned, of a frame that stands anywhere: those ahead of it are told, none behind.
func TestAnyIsSpoilt(t *testing.T) {
	file := [][]byte{[]byte("first"), random(130), []byte("third"), random(20)}
	at := 0
	for i, record := range file {
		f := framed(record)
		for bit := range 8 * len(record) {
			b := written(file)
			b[at+len(f)-4-len(record)+bit/8] ^= 1 << (bit % 8)
			told(t, b, file[:i])
		}
		at += len(f)
	}
}

// wanted is what Scan tells of b, word for word as the document tells it: each record that may begin b is framed, and held against it.
func wanted(b []byte) (l [][]byte, good int) {
	for {
		n, width := binary.Uvarint(b[min(good+1, len(b)):])
		from := good + 1 + width
		if width <= 0 || n > api.MaxText || from+int(n) > len(b) {
			return l, good
		}
		record := b[from : from+int(n)]
		if !bytes.HasPrefix(b[good:], framed(record)) {
			return l, good
		}
		l = append(l, record)
		good += len(framed(record))
	}
}

// P1: each call ends and none panics; P3.1 and P3.2, of whatever bytes, alone, and behind and ahead of frames.
func FuzzScan(f *testing.F) {
	for _, b := range noFrames() {
		f.Add(b)
	}
	for _, file := range files() {
		f.Add(written(file))
	}
	f.Fuzz(func(t *testing.T, b []byte) {
		was := slices.Clone(b)
		for _, all := range [][]byte{b, slices.Concat(framed(b), b), slices.Concat(framed(nil), b, framed(nil))} {
			want, good := wanted(all)
			told(t, all, want)
			if good != len(written(want)) {
				t.Fatalf("%x: %d records, %d bytes", all, len(want), good)
			}
			if _, n, ok := frame.First(all); ok != (len(want) > 0) || ok && n != len(framed(want[0])) {
				t.Fatalf("First(%x): %d, %v", all, n, ok)
			}
		}
		put, e := frame.Put(b)
		if long := len(b) > api.MaxText; long && (put != nil || e != api.ErrLong) || !long && (e != api.OK || !bytes.Equal(put, framed(b))) {
			t.Fatalf("Put of %d bytes: %.20x, %d", len(b), put, e)
		}
		if !bytes.Equal(b, was) {
			t.Fatalf("changed: %x, was %x", b, was)
		}
	})
}
