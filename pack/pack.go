// Package pack is layer 1: see shared/doc/01-pack.md.
package pack

import "ringer/api"

const (
	wide = 64       // bits of a number
	step = 7        // bits of it a byte has
	more = 1 << 7   // stands in each byte but the last one
	low  = more - 1 // a byte's bits of the number
)

// Put is a number as bytes.
func Put(n uint64) []byte {
	var b []byte
	for n >= more {
		b = append(b, byte(n&low|more))
		n >>= step
	}
	return append(b, byte(n))
}

// Take takes a number.
func Take(b []byte, at int) (n uint64, next int, e api.Errno) {
	if at < 0 || at > len(b) {
		return 0, 0, api.ErrArg
	}
	next = at
	n, ok := number(func() (byte, bool) {
		if next == len(b) {
			return 0, false
		}
		next++
		return b[next-1], true
	})
	if !ok {
		return 0, 0, api.ErrBytes
	}
	return n, next, api.OK
}

// number is the number whose bytes one answers, one behind the other.
func number(one func() (byte, bool)) (uint64, bool) {
	var n uint64
	for shift := 0; shift < wide; shift += step {
		c, ok := one()
		if !ok {
			return 0, false
		}
		// A last byte 0 could be left out: each number has its shortest bytes alone.
		if c == 0 && shift > 0 {
			return 0, false
		}
		// The tenth byte has room for the highest bit alone, and none may follow it.
		if shift+step > wide && c > 1 {
			return 0, false
		}
		n |= uint64(c&low) << shift
		if c < more {
			return n, true
		}
	}
	return 0, false
}

// PutInt is a whole number as bytes.
func PutInt(n int64) []byte {
	if n < 0 {
		// 2*(-n)-1, reckoned as 2*(-n-1)+1: the smallest int64 has no opposite.
		return Put(uint64(-(n+1))<<1 | 1)
	}
	return Put(uint64(n) << 1)
}

// TakeInt takes a whole number.
func TakeInt(b []byte, at int) (n int64, next int, e api.Errno) {
	u, next, e := Take(b, at)
	n = int64(u >> 1)
	if u&1 != 0 {
		n = -n - 1
	}
	return n, next, e
}

// PutText is a text as bytes.
func PutText(s string) ([]byte, api.Errno) {
	if len(s) > api.MaxText {
		return nil, api.ErrLong
	}
	return Join(Put(uint64(len(s))), []byte(s)), api.OK
}

// TakeText takes a text.
func TakeText(b []byte, at int) (s string, next int, e api.Errno) {
	long, from, e := Take(b, at)
	if e != api.OK {
		return "", 0, e
	}
	// MaxText first: a number beyond all int must not be made one.
	if long > api.MaxText || int(long) > len(b)-from {
		return "", 0, api.ErrBytes
	}
	next = from + int(long)
	return string(b[from:next]), next, api.OK
}

// Join joins rows of bytes.
func Join(parts ...[]byte) []byte {
	all := 0
	for _, p := range parts {
		all += len(p)
	}
	b := make([]byte, 0, all)
	for _, p := range parts {
		b = append(b, p...)
	}
	return b
}
