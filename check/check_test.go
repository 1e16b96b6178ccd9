package check_test

import (
	"bytes"
	"hash/crc32"
	"math"
	"math/rand/v2"
	"slices"
	"testing"

	"ringer/api"
	"ringer/check"
)

// powers are the divisor's, as the document names them.
func powers() []int {
	return []int{32, 28, 27, 26, 25, 23, 22, 20, 19, 18, 14, 13, 11, 10, 9, 8, 6, 0}
}

// divided is the check, word for word as the document tells it: bit by bit, by a long division.
func divided(b []byte) uint32 {
	var row []bool
	for _, x := range b {
		for bit := range 8 {
			row = append(row, x>>bit&1 == 1)
		}
	}
	// Put behind ahead of turning: of fewer than 4 bytes some of these are among the first 32.
	row = append(row, make([]bool, 32)...)
	for i := range 32 {
		row[i] = !row[i]
	}
	for i := range 8 * len(b) {
		if !row[i] {
			continue
		}
		for _, p := range powers() {
			row[i+32-p] = !row[i+32-p]
		}
	}
	var c uint32
	for i, bit := range row[8*len(b):] {
		if !bit {
			c |= 1 << i
		}
	}
	return c
}

// masked is what the document makes of a check, bit by bit and in 64 bits.
func masked(c uint32) uint32 {
	var n uint64
	for bit := range 32 {
		n |= uint64(c>>bit&1) << ((bit + 32 - 15) % 32)
	}
	return uint32((n + 2726488792) % (1 << 32))
}

// having is the four bytes that have the check c: the division, backwards.
func having(c uint32) []byte {
	left := ^c
	for range 32 {
		// Just a divisor that was put on sets x^0, the highest bit.
		if left>>31 == 1 {
			left = (left^0x82f63b78)<<1 | 1
		} else {
			left <<= 1
		}
	}
	left = ^left
	return []byte{byte(left), byte(left >> 8), byte(left >> 16), byte(left >> 24)}
}

// checks are some, those at the edges among them.
func checks() []uint32 {
	l := []uint32{0, 1, 2, 1 << 15, 1 << 16, 1 << 17, 1 << 31, math.MaxUint32, math.MaxUint32 - 1, 0x82f63b78, 2726488792}
	r := rand.New(rand.NewPCG(2, 1))
	for range 50 {
		l = append(l, r.Uint32())
	}
	return l
}

// random are n bytes, always the same ones of one n.
func random(n int) []byte {
	r := rand.New(rand.NewPCG(2, uint64(n)))
	b := make([]byte, n)
	for i := range b {
		b[i] = byte(r.Uint32())
	}
	return b
}

// rows are of 0 to 70 bytes, and of some numbers more, each with first and last ones that are as they were, 0 or 255.
func rows() [][]byte {
	l := [][]byte{nil, {}}
	long := []int{127, 128, 255, 256, 300, api.MaxText - 1, api.MaxText}
	for n := 1; n <= 70; n++ {
		long = append(long, n)
	}
	for _, n := range long {
		l = append(l, random(n), make([]byte, n), bytes.Repeat([]byte{255}, n))
		for _, edge := range []byte{0, 255} {
			for k := 1; k <= min(n, 5); k++ {
				first, last := random(n), random(n)
				for i := range k {
					first[i], last[n-1-i] = edge, edge
				}
				l = append(l, first, last)
			}
		}
	}
	return l
}

// The chapter's examples.
func TestExamples(t *testing.T) {
	for _, none := range [][]byte{nil, {}} {
		if c := check.Of(none); c != 0 {
			t.Errorf("Of(none): %d", c)
		}
		if c := check.Masked(none); c != 2726488792 {
			t.Errorf("Masked(none): %d", c)
		}
	}
	if c := check.Of([]byte("123456789")); c != 3808858755 {
		t.Errorf("Of: %d", c)
	}
}

// P2.1: the checks that RFC 3720 tells (B.4), and that of one byte 0.
func TestOfKnown(t *testing.T) {
	up, down := make([]byte, 32), make([]byte, 32)
	for i := range up {
		up[i], down[i] = byte(i), byte(31-i)
	}
	read := "\x01\xc0\x00\x00\x00\x00\x00\x00\x00\x00\x00\x00\x00\x00\x00\x00\x14\x00\x00\x00\x00\x00\x04\x00\x00\x00\x00\x14\x00\x00\x00\x18\x28\x00\x00\x00\x00\x00\x00\x00\x02\x00\x00\x00\x00\x00\x00\x00"
	for _, k := range []struct {
		b    []byte
		want uint32
	}{
		{make([]byte, 32), 0x8a9136aa},
		{bytes.Repeat([]byte{255}, 32), 0x62a8ab43},
		{up, 0x46dd794e},
		{down, 0x113fdb5c},
		{[]byte(read), 0xd9963a56},
		{[]byte{0}, 0x527d5351},
	} {
		if c := check.Of(k.b); c != k.want {
			t.Errorf("Of(%x): %08x, want %08x", k.b, c, k.want)
		}
	}
}

// P2.1: the check is what the division leaves over.
func TestOf(t *testing.T) {
	for _, b := range rows() {
		if c, want := check.Of(b), divided(b); c != want {
			t.Errorf("Of of %d bytes, %.8x..: %08x, want %08x", len(b), b, c, want)
		}
	}
}

// P2.1: all rows of one byte and of two, some of three.
func TestOfFewBytes(t *testing.T) {
	for i := range 1 << 16 {
		x, y := byte(i>>8), byte(i)
		for _, b := range [][]byte{{x}, {x, y}, {x, y, 0}, {x, 255, y}, {0, x, y}} {
			if c, want := check.Of(b), divided(b); c != want {
				t.Fatalf("Of(%x): %08x, want %08x", b, c, want)
			}
		}
	}
}

// P2.1: rows as long as a file may be.
func TestOfManyBytes(t *testing.T) {
	table := crc32.MakeTable(crc32.Castagnoli)
	for _, n := range []int{1 << 14, 1<<16 + 1, api.MaxFile} {
		for _, b := range [][]byte{random(n), make([]byte, n), bytes.Repeat([]byte{255}, n)} {
			if c, want := check.Of(b), crc32.Checksum(b, table); c != want {
				t.Errorf("Of of %d bytes: %08x, want %08x", n, c, want)
			}
		}
	}
}

// P2.1: Of is On of 0.
func TestOnOfZero(t *testing.T) {
	for _, b := range rows() {
		if c, want := check.On(0, b), divided(b); c != want || c != check.Of(b) {
			t.Errorf("On(0, %.8x..): %08x, want %08x", b, c, want)
		}
	}
}

// P2.1: with no bytes behind, each check is as it was.
func TestOnWithNoBytes(t *testing.T) {
	for _, c := range checks() {
		for _, none := range [][]byte{nil, {}} {
			if got := check.On(c, none); got != c {
				t.Errorf("On(%08x, none): %08x", c, got)
			}
		}
	}
}

// P2.1: a row cut in two anywhere, and in single bytes.
func TestOnOfACut(t *testing.T) {
	for _, b := range rows() {
		if len(b) > 300 {
			continue
		}
		want := divided(b)
		for k := range len(b) + 1 {
			if c := check.On(check.Of(b[:k]), b[k:]); c != want {
				t.Fatalf("%x, cut at %d: %08x, want %08x", b, k, c, want)
			}
		}
		var c uint32
		for i := range b {
			c = check.On(c, b[i:i+1])
		}
		if c != want {
			t.Fatalf("%x, byte by byte: %08x, want %08x", b, c, want)
		}
	}
}

// P2.1: each number is a check of some bytes; those that have it stand ahead of what is put behind.
func TestOnOfAnyCheck(t *testing.T) {
	for _, c := range checks() {
		ahead := having(c)
		if got := check.Of(ahead); got != c {
			t.Errorf("Of(%x): %08x, want %08x", ahead, got, c)
		}
		for _, b := range rows() {
			if len(b) > 70 {
				continue
			}
			if got, want := check.On(c, b), divided(slices.Concat(ahead, b)); got != want {
				t.Fatalf("On(%08x, %x): %08x, want %08x", c, b, got, want)
			}
		}
	}
}

// P2.2: the masked check of ordinary rows, and of some checks whose numbers tell it.
func TestMasked(t *testing.T) {
	for _, b := range rows() {
		if m, want := check.Masked(b), masked(divided(b)); m != want {
			t.Errorf("Masked(%.8x..): %d, want %d", b, m, want)
		}
	}
	for c, want := range map[uint32]uint32{
		0:              2726488792,
		1:              2726488792 + 1<<17,
		1 << 14:        2726488792 - 1<<31, // wraps round
		1 << 15:        2726488792 + 1,
		1 << 31:        2726488792 + 1<<16,
		math.MaxUint32: 2726488791, // wraps round
	} {
		if m := check.Masked(having(c)); m != want {
			t.Errorf("Masked(%x), whose check is %08x: %d, want %d", having(c), c, m, want)
		}
	}
}

// P2.2: masked checks just below 2^32 and just behind, where they wrap round.
func TestMaskedWrapsRound(t *testing.T) {
	const plus uint32 = 2726488792
	for _, want := range []uint32{0, 1, 2, plus - 1, plus, plus + 1, math.MaxUint32 - 1, math.MaxUint32} {
		turned := want - plus
		b := having(turned<<15 | turned>>17)
		if m := check.Masked(b); m != want {
			t.Errorf("Masked(%x): %d, want %d", b, m, want)
		}
	}
}

// flip turns the bit of that number, of each byte the lowest one first.
func flip(b []byte, bit int) {
	b[bit/8] ^= 1 << (bit % 8)
}

// spoilt is b with the bits from that one on turned that are 1 in pattern; false, if not all of these are b's.
func spoilt(b []byte, from int, pattern uint32) ([]byte, bool) {
	other := slices.Clone(b)
	for bit := range 32 {
		if pattern>>bit&1 == 0 {
			continue
		}
		if from+bit >= 8*len(b) {
			return nil, false
		}
		flip(other, from+bit)
	}
	return other, true
}

// patterns are differences that stand within 32 bits: single bits, the two ends, all, the divisor's, some more.
func patterns() []uint32 {
	l := []uint32{1 | 1<<31, 0xff, 0xffff, 0xffff0000, math.MaxUint32, math.MaxUint32 - 1, math.MaxUint32 >> 1, 0x82f63b78, 0x1edc6f41, 0x80808080, 0x55555555}
	for bit := range 32 {
		l = append(l, 1<<bit)
	}
	r := rand.New(rand.NewPCG(2, 2))
	for range 30 {
		l = append(l, max(1, r.Uint32()>>r.UintN(32)))
	}
	return l
}

// places are the bits from which on rows of n bytes are spoilt: all, of long ones those at the two ends and one between.
func places(n int) []int {
	var l []int
	for from := range 8 * n {
		if n <= 20 || from <= 8 || from == 31 || from == 32 || from == 4*n+3 || from >= 8*n-33 {
			l = append(l, from)
		}
	}
	return l
}

// spoiltRows are those of which P2.3 is tried.
func spoiltRows() [][]byte {
	var l [][]byte
	for _, n := range []int{1, 2, 3, 4, 5, 7, 8, 9, 16, 20, 100, api.MaxText} {
		l = append(l, random(n), make([]byte, n), bytes.Repeat([]byte{255}, n))
	}
	return l
}

// P2.3: rows that differ at bits alone that stand within 32 have not the same check, nor the same one masked.
func TestSpoiltHasAnotherCheck(t *testing.T) {
	for _, b := range spoiltRows() {
		c, m := check.Of(b), check.Masked(b)
		for _, from := range places(len(b)) {
			for _, p := range patterns() {
				other, ok := spoilt(b, from, p)
				if !ok {
					continue
				}
				if check.Of(other) == c || check.Masked(other) == m {
					t.Fatalf("%d bytes %.8x.., from the bit %d on spoilt by %08x: the check is %08x still", len(b), b, from, p, c)
				}
			}
		}
	}
}

// rank tells how many of the numbers are not made of the others by exclusive-or.
func rank(l []uint32) int {
	var base []uint32
	for _, x := range l {
		for _, y := range base {
			x = min(x, x^y)
		}
		if x != 0 {
			base = append(base, x)
		}
	}
	return len(base)
}

// P2.3, of all differences at once: what each bit of 32 changes of the check isn't made of what others change, so no choice of them changes nothing (by TestBitsAddUp).
func TestNoChoiceOfBitsIsLost(t *testing.T) {
	for _, b := range spoiltRows() {
		c, other := check.Of(b), slices.Clone(b)
		for _, from := range places(len(b)) {
			var changed []uint32
			for bit := from; bit < min(from+32, 8*len(b)); bit++ {
				flip(other, bit)
				changed = append(changed, c^check.Of(other))
				flip(other, bit)
			}
			if rank(changed) != len(changed) {
				t.Fatalf("%d bytes %.8x.., from the bit %d on: %d of %d", len(b), b, from, rank(changed), len(changed))
			}
		}
	}
}

// What two differences change of the check, both together change.
func TestBitsAddUp(t *testing.T) {
	for _, n := range []int{1, 2, 3, 4, 5, 9, 70, 300} {
		a, b, c := random(n), bytes.Repeat([]byte{255}, n), random(n + 1)[1:]
		all := make([]byte, n)
		for i := range all {
			all[i] = a[i] ^ b[i] ^ c[i]
		}
		if check.Of(all) != check.Of(a)^check.Of(b)^check.Of(c) {
			t.Errorf("%d bytes: %08x", n, check.Of(all))
		}
	}
}

// What is handed in is not changed, room behind it is none of it, and nothing is kept from call to call.
func TestNothingIsChangedOrKept(t *testing.T) {
	room := []byte("123456789 and more")
	was := string(room)
	b := room[:9]
	for range 2 {
		if c, on, m := check.Of(b), check.On(check.Of(b[:4]), b[4:]), check.Masked(b); c != 3808858755 || on != c || m != masked(c) {
			t.Errorf("%d, %d, %d", c, on, m)
		}
		check.On(7, room)
	}
	if string(room) != was {
		t.Errorf("changed: %q", room)
	}
}

// P1: each call ends and none panics; P2.1 and P2.2, of whatever bytes, wherever they are cut.
func FuzzOn(f *testing.F) {
	f.Add([]byte(nil), 0, uint32(0))
	f.Add([]byte("123456789"), 4, uint32(1))
	f.Add([]byte{0, 255, 0}, 1, uint32(math.MaxUint32))
	f.Add(bytes.Repeat([]byte{255}, 100), 32, uint32(1<<31))
	f.Fuzz(func(t *testing.T, b []byte, cut int, c uint32) {
		was, want := slices.Clone(b), divided(b)
		k := int(uint(cut) % uint(len(b)+1))
		if got, on, m := check.Of(b), check.On(check.Of(b[:k]), b[k:]), check.Masked(b); got != want || on != want || m != masked(want) {
			t.Errorf("%x, cut at %d: %08x, %08x, masked %08x; want %08x", b, k, got, on, m, want)
		}
		if got, want := check.On(c, b), divided(slices.Concat(having(c), b)); got != want {
			t.Errorf("On(%08x, %x): %08x, want %08x", c, b, got, want)
		}
		if !bytes.Equal(b, was) {
			t.Errorf("changed: %x, was %x", b, was)
		}
	})
}
