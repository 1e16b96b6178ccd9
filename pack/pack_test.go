package pack_test

import (
	"bytes"
	"encoding/binary"
	"math"
	"math/rand/v2"
	"slices"
	"strings"
	"testing"

	"ringer/api"
	"ringer/pack"
)

// numbers are those at which the count of bytes changes, and some between.
func numbers() []uint64 {
	l := []uint64{0, 1, 2, 300, api.MaxText, api.MaxText + 1, math.MaxInt64, math.MaxUint64 - 1, math.MaxUint64}
	for bits := 1; bits < 64; bits++ {
		l = append(l, 1<<bits-1, 1<<bits, 1<<bits+1)
	}
	r := rand.New(rand.NewPCG(1, 1))
	for range 500 {
		l = append(l, r.Uint64()>>r.UintN(64))
	}
	return l
}

// wholes are whole numbers of both signs, the ends among them.
func wholes() []int64 {
	l := []int64{math.MinInt64, math.MinInt64 + 1, math.MaxInt64, math.MaxInt64 - 1}
	for _, n := range numbers() {
		l = append(l, int64(n), -int64(n))
	}
	return l
}

func texts() []string {
	return []string{
		"", "a", "ab", "\x00", "\xff\x80\xfe", "Gruß, 世界", strings.Repeat("z", 127), strings.Repeat("\x80", 128),
		strings.Repeat("y", api.MaxText-1), strings.Repeat("x", api.MaxText),
	}
}

// kind is one of the three kinds of things that are put and taken; again is what is put of what was taken.
type kind struct {
	name string
	take func(b []byte, at int) (zero bool, next int, e api.Errno)
	// again puts what stands at the place at.
	again func(b []byte, at int) []byte
}

func kinds() []kind {
	return []kind{
		{"Take", func(b []byte, at int) (bool, int, api.Errno) {
			n, next, e := pack.Take(b, at)
			return n == 0, next, e
		}, func(b []byte, at int) []byte {
			n, _, _ := pack.Take(b, at)
			return pack.Put(n)
		}},
		{"TakeInt", func(b []byte, at int) (bool, int, api.Errno) {
			n, next, e := pack.TakeInt(b, at)
			return n == 0, next, e
		}, func(b []byte, at int) []byte {
			n, _, _ := pack.TakeInt(b, at)
			return pack.PutInt(n)
		}},
		{"TakeText", func(b []byte, at int) (bool, int, api.Errno) {
			s, next, e := pack.TakeText(b, at)
			return s == "", next, e
		}, func(b []byte, at int) []byte {
			s, _, _ := pack.TakeText(b, at)
			p, _ := pack.PutText(s)
			return p
		}},
	}
}

// refused fails unless each kind refuses with that error and tells zero values beside it.
func refused(t *testing.T, b []byte, at int, want api.Errno) {
	t.Helper()
	for _, k := range kinds() {
		if zero, next, e := k.take(b, at); e != want || !zero || next != 0 {
			t.Errorf("%s(%.20x, %d): zero %v, next %d, error %d; want error %d", k.name, b, at, zero, next, e, want)
		}
	}
}

func putText(t *testing.T, s string) []byte {
	t.Helper()
	b, e := pack.PutText(s)
	if e != api.OK {
		t.Fatalf("PutText of %d bytes: error %d", len(s), e)
	}
	return b
}

// P1.1: a number's bytes.
func TestPut(t *testing.T) {
	for n, want := range map[uint64]string{
		0: "\x00", 1: "\x01", 127: "\x7f", 128: "\x80\x01", 300: "\xac\x02", 16383: "\xff\x7f", 16384: "\x80\x80\x01",
		1<<63 - 1:      "\xff\xff\xff\xff\xff\xff\xff\xff\x7f",
		1 << 63:        "\x80\x80\x80\x80\x80\x80\x80\x80\x80\x01",
		math.MaxUint64: "\xff\xff\xff\xff\xff\xff\xff\xff\xff\x01",
	} {
		if b := pack.Put(n); string(b) != want {
			t.Errorf("Put(%d): %x, want %x", n, b, want)
		}
	}
	for _, n := range numbers() {
		if b := pack.Put(n); !bytes.Equal(b, binary.AppendUvarint(nil, n)) {
			t.Errorf("Put(%d): %x", n, b)
		}
	}
}

// P1.1: a whole number's bytes.
func TestPutInt(t *testing.T) {
	for n, want := range map[int64]string{
		0: "\x00", -1: "\x01", 1: "\x02", -2: "\x03", 2: "\x04", 63: "\x7e", -64: "\x7f", 64: "\x80\x01", -65: "\x81\x01",
		math.MaxInt64: "\xfe\xff\xff\xff\xff\xff\xff\xff\xff\x01",
		math.MinInt64: "\xff\xff\xff\xff\xff\xff\xff\xff\xff\x01",
	} {
		if b := pack.PutInt(n); string(b) != want {
			t.Errorf("PutInt(%d): %x, want %x", n, b, want)
		}
	}
	for _, n := range wholes() {
		if b := pack.PutInt(n); !bytes.Equal(b, binary.AppendVarint(nil, n)) {
			t.Errorf("PutInt(%d): %x", n, b)
		}
	}
}

// P1.1: a text's bytes, and texts that are too long.
func TestPutText(t *testing.T) {
	if b, e := pack.PutText("ab"); string(b) != "\x02ab" || e != api.OK {
		t.Errorf("%x, %d", b, e)
	}
	for _, s := range texts() {
		if b := putText(t, s); string(b) != string(binary.AppendUvarint(nil, uint64(len(s))))+s {
			t.Errorf("PutText of %d bytes: %.20x", len(s), b)
		}
	}
	for _, long := range []int{api.MaxText + 1, api.MaxText + 2, 2 * api.MaxText, 1 << 20} {
		if b, e := pack.PutText(strings.Repeat("x", long)); b != nil || e != api.ErrLong {
			t.Errorf("PutText of %d bytes: %.20x, %d", long, b, e)
		}
	}
	// Bytes are counted, not runes.
	if _, e := pack.PutText(strings.Repeat("ß", api.MaxText/2+1)); e != api.ErrLong {
		t.Errorf("error %d", e)
	}
}

// P1.1: all parts, one behind the other.
func TestJoin(t *testing.T) {
	for _, c := range []struct {
		parts [][]byte
		want  string
	}{
		{nil, ""},
		{[][]byte{nil}, ""},
		{[][]byte{nil, {}, nil}, ""},
		{[][]byte{{7}}, "\x07"},
		{[][]byte{{1, 2}, nil, {3}, {}, {4, 5, 6}, {1, 2}}, "\x01\x02\x03\x04\x05\x06\x01\x02"},
		{[][]byte{bytes.Repeat([]byte{8}, 5000), bytes.Repeat([]byte{9}, 5000)}, strings.Repeat("\x08", 5000) + strings.Repeat("\x09", 5000)},
	} {
		if b := pack.Join(c.parts...); string(b) != c.want {
			t.Errorf("Join(%.20x): %.20x", c.parts, b)
		}
	}
}

// What is handed in is neither changed nor kept; what is told is new memory.
func TestJoinIsNewMemory(t *testing.T) {
	room := []byte("abcdef")
	parts := [][]byte{room[:2], []byte("xyz")}
	b := pack.Join(parts...)
	one := pack.Join(room[:2])
	if string(room) != "abcdef" || string(parts[0]) != "ab" || string(parts[1]) != "xyz" {
		t.Errorf("changed: %s, %s", room, parts)
	}
	room[0], parts[1][0] = 'Q', 'Q'
	if string(b) != "abxyz" || string(one) != "ab" {
		t.Errorf("kept: %s, %s", b, one)
	}
	b[1], one[1] = 'R', 'R'
	if string(room) != "Qbcdef" {
		t.Errorf("shared: %s", room)
	}
}

func TestPutIsNewMemory(t *testing.T) {
	for _, put := range []func() []byte{
		func() []byte { return pack.Put(5) },
		func() []byte { return pack.PutInt(5) },
		func() []byte { b, _ := pack.PutText("ab"); return b },
	} {
		a, b := put(), put()
		want := string(b)
		a[0]++
		_ = append(a, 9)
		if string(b) != want || string(put()) != want {
			t.Errorf("%x, %x, want %x", b, put(), want)
		}
	}
}

// P1.2: what is taken, and the place behind it.
func TestTake(t *testing.T) {
	if n, next, e := pack.Take([]byte{0xac, 2}, 0); n != 300 || next != 2 || e != api.OK {
		t.Error(n, next, e)
	}
	if n, next, e := pack.Take([]byte{9, 0xac, 2, 0}, 1); n != 300 || next != 3 || e != api.OK {
		t.Error(n, next, e)
	}
	// Another place is another number.
	if n, next, e := pack.Take([]byte{9, 0xac, 2, 0}, 2); n != 2 || next != 3 || e != api.OK {
		t.Error(n, next, e)
	}
	if n, next, e := pack.TakeInt([]byte{9, 1, 0}, 1); n != -1 || next != 2 || e != api.OK {
		t.Error(n, next, e)
	}
	if s, next, e := pack.TakeText([]byte("\x09\x02abc"), 1); s != "ab" || next != 4 || e != api.OK {
		t.Error(s, next, e)
	}
	if s, next, e := pack.TakeText([]byte{0}, 0); s != "" || next != 1 || e != api.OK {
		t.Error(s, next, e)
	}
}

// P1.2: ErrArg, if at is below 0 or above the number of all bytes, whatever they are; just at it ErrBytes.
func TestTakeAtTheEdges(t *testing.T) {
	for _, b := range [][]byte{nil, {}, {0}, {0x80}, {0x80, 0}, {2, 'a'}, bytes.Repeat([]byte{1}, 300)} {
		for _, at := range []int{-1, -2, math.MinInt, len(b) + 1, len(b) + 2, math.MaxInt} {
			refused(t, b, at, api.ErrArg)
		}
		refused(t, b, len(b), api.ErrBytes)
		// Room behind the bytes is none of them.
		refused(t, make([]byte, 9)[:3:9], 4, api.ErrArg)
		refused(t, make([]byte, 9)[:3:9], 3, api.ErrBytes)
	}
}

// P1.2: bytes that are longer than they can be, of no 64 bits, or cut.
func TestTakeRefusesBytes(t *testing.T) {
	full := strings.Repeat("\xff", 9)
	l := []string{
		"\x80", "\xff", "\x80\x80", "\x80\x00", "\x81\x00", "\xff\x00", "\x81\x80\x00", "\xff\xff\x00",
		full, full + "\x00", full + "\x80", full + "\x80\x00", full + "\x81", full + "\x81\x00", full + "\x81\x01", full + "\xff", full + "\xff\x01",
		strings.Repeat("\x80", 9) + "\x00", strings.Repeat("\x80", 10) + "\x01", strings.Repeat("\x80", 63), strings.Repeat("\x80", 5000) + "\x01",
	}
	for c := 2; c < 256; c++ {
		l = append(l, full+string([]byte{byte(c)}), full+string([]byte{byte(c)})+"\x00")
	}
	for k := 1; k < 12; k++ {
		l = append(l, strings.Repeat("\x80", k)+"\x00", strings.Repeat("\xff", k)+"\x00")
	}
	for _, s := range l {
		refused(t, []byte(s), 0, api.ErrBytes)
		refused(t, []byte("\x00"+s), 1, api.ErrBytes)
	}
}

// P1.2: a text has at most MaxText bytes, and has them all.
func TestTakeTextRefusesCounts(t *testing.T) {
	room := bytes.Repeat([]byte{'x'}, 3*api.MaxText)
	for _, n := range []uint64{api.MaxText + 1, api.MaxText + 2, 2 * api.MaxText, 1 << 16, 1 << 31, 1<<32 + 2, 1 << 62, 1 << 63, math.MaxInt64, math.MaxUint64 - 1, math.MaxUint64} {
		for _, behind := range [][]byte{room, nil} {
			if s, next, e := pack.TakeText(pack.Join(pack.Put(n), behind), 0); s != "" || next != 0 || e != api.ErrBytes {
				t.Errorf("%d bytes: %.20q, %d, %d", n, s, next, e)
			}
		}
	}
	for _, n := range []int{1, 2, 127, 128, 300, api.MaxText} {
		b := pack.Join(pack.Put(uint64(n)), room[:n])
		if s, next, e := pack.TakeText(b, 0); s != string(room[:n]) || next != len(b) || e != api.OK {
			t.Errorf("%d bytes: %d bytes, %d, %d", n, len(s), next, e)
		}
		if s, next, e := pack.TakeText(b[:len(b)-1], 0); s != "" || next != 0 || e != api.ErrBytes {
			t.Errorf("%d bytes less 1: %.20q, %d, %d", n, s, next, e)
		}
	}
	// A count that is not as short as it can be is none.
	if s, _, e := pack.TakeText([]byte("\x82\x00ab"), 0); s != "" || e != api.ErrBytes {
		t.Errorf("%q, %d", s, e)
	}
}

// Taking changes nothing of the bytes, and keeps nothing of them.
func TestTakeKeepsNothing(t *testing.T) {
	b := []byte("\x02ab\xac\x02\x01")
	was := slices.Clone(b)
	s, _, _ := pack.TakeText(b, 0)
	n, _, _ := pack.Take(b, 3)
	i, _, _ := pack.TakeInt(b, 5)
	if !bytes.Equal(b, was) {
		t.Errorf("changed: %x", b)
	}
	clear(b)
	if s != "ab" || n != 300 || i != -1 {
		t.Error(s, n, i)
	}
}

// around calls f with b alone, and with others ahead of it and behind it, and with the place where it begins.
func around(b []byte, f func(all []byte, at int)) {
	for _, ahead := range []string{"", "z", "\x80", "\xff\xff", "\x00\x80\x01"} {
		for _, behind := range []string{"", "\x00", "\x01", "\x80", "\xff\x7f", "z"} {
			f(slices.Concat([]byte(ahead), b, []byte(behind)), len(ahead))
		}
	}
}

// P1.3: what was put is taken again, whatever stands ahead and behind.
func TestPutIsTakenAgain(t *testing.T) {
	for _, want := range numbers() {
		b := pack.Put(want)
		around(b, func(all []byte, at int) {
			if n, next, e := pack.Take(all, at); n != want || next != at+len(b) || e != api.OK {
				t.Fatalf("Take(%x, %d): %d, %d, %d; want %d", all, at, n, next, e, want)
			}
		})
	}
	for _, want := range wholes() {
		b := pack.PutInt(want)
		around(b, func(all []byte, at int) {
			if n, next, e := pack.TakeInt(all, at); n != want || next != at+len(b) || e != api.OK {
				t.Fatalf("TakeInt(%x, %d): %d, %d, %d; want %d", all, at, n, next, e, want)
			}
		})
	}
	for _, want := range texts() {
		b := putText(t, want)
		around(b, func(all []byte, at int) {
			if s, next, e := pack.TakeText(all, at); s != want || next != at+len(b) || e != api.OK {
				t.Fatalf("TakeText(%.20x, %d): %.20q, %d, %d", all, at, s, next, e)
			}
		})
	}
}

// P1.3: things that were joined are taken one behind the other.
func TestJoinedIsTakenInOrder(t *testing.T) {
	var parts [][]byte
	for i, n := range numbers() {
		parts = append(parts, pack.Put(n), pack.PutInt(-int64(n)), putText(t, texts()[i%len(texts())]))
	}
	b, at := pack.Join(parts...), 0
	for i, want := range numbers() {
		n, next, e := pack.Take(b, at)
		whole, next2, e2 := pack.TakeInt(b, next)
		s, next3, e3 := pack.TakeText(b, next2)
		if n != want || whole != -int64(want) || s != texts()[i%len(texts())] || e != api.OK || e2 != api.OK || e3 != api.OK {
			t.Fatalf("at %d: %d %d %.20q, errors %d %d %d; want %d", at, n, whole, s, e, e2, e3, want)
		}
		at = next3
	}
	if at != len(b) {
		t.Errorf("ends at %d of %d", at, len(b))
	}
}

// P1.3: cut anywhere within it is ErrBytes.
func TestCutIsRefused(t *testing.T) {
	cut := func(b []byte, take int) {
		for n := range len(b) {
			for _, ahead := range []string{"", "\x80\x01z"} {
				all := slices.Concat([]byte(ahead), b[:n])
				if zero, next, e := kinds()[take].take(all, len(ahead)); !zero || next != 0 || e != api.ErrBytes {
					t.Fatalf("%s of %.20x, cut to %d: zero %v, next %d, error %d", kinds()[take].name, b, n, zero, next, e)
				}
			}
		}
	}
	for _, n := range numbers() {
		cut(pack.Put(n), 0)
	}
	for _, n := range wholes() {
		cut(pack.PutInt(n), 1)
	}
	for _, s := range texts() {
		cut(putText(t, s), 2)
	}
}

// only fails unless each kind refuses the bytes from at on, or takes just what is put of it.
func only(t *testing.T, b []byte, at int) {
	t.Helper()
	for _, k := range kinds() {
		zero, next, e := k.take(b, at)
		if e != api.OK {
			if !zero || next != 0 || e != api.ErrBytes && e != api.ErrArg || (e == api.ErrArg) != (at < 0 || at > len(b)) {
				t.Errorf("%s(%.20x, %d): zero %v, next %d, error %d", k.name, b, at, zero, next, e)
			}
			continue
		}
		if next <= at || next > len(b) || !bytes.Equal(b[at:next], k.again(b, at)) {
			t.Errorf("%s(%.20x, %d): next %d, put again %.20x", k.name, b, at, next, k.again(b, at))
		}
	}
}

// P1.3: nothing else is taken as it: all bytes of two, and of three with some as the last one.
func TestNothingElseIsTaken(t *testing.T) {
	for i := range 1 << 16 {
		a, b := byte(i>>8), byte(i)
		only(t, []byte{a}, 0)
		only(t, []byte{a, b}, 0)
		for _, c := range []byte{0, 1, 0x7f, 0x80, 0xff} {
			only(t, []byte{a, b, c}, 0)
		}
	}
}

// P1.3: what was put and has another bit is refused, or is something else's bytes.
func TestAnotherBitIsSomethingElse(t *testing.T) {
	for _, n := range numbers() {
		b := pack.Put(n)
		for bit := range 8 * len(b) {
			other := slices.Clone(b)
			other[bit/8] ^= 1 << (bit % 8)
			only(t, other, 0)
			if x, _, e := pack.Take(other, 0); e == api.OK && x == n {
				t.Errorf("Take(%x): %d, as of %x", other, n, b)
			}
		}
	}
}

// P1: each call ends and none panics; an error has zero values beside it.
func FuzzTake(f *testing.F) {
	f.Add([]byte(nil), 0)
	f.Add([]byte{0x80, 0}, -1)
	f.Add([]byte("\x02ab\xac\x02"), 3)
	f.Add([]byte("\xff\xff\xff\xff\xff\xff\xff\xff\xff\x01ab"), 0)
	f.Add([]byte("\x80\x20ab"), math.MaxInt)
	f.Fuzz(func(t *testing.T, b []byte, at int) {
		was := slices.Clone(b)
		only(t, b, at)
		if !bytes.Equal(b, was) {
			t.Errorf("changed: %x, was %x", b, was)
		}
	})
}
