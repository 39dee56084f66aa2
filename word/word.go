// Package word is layer 1: numbers and strings as bytes, and a cursor that decodes them. See shared/doc/01-word.md.
package word

import (
	"bytes"

	"mortmain/api"
)

// numSize is the number of bytes of a uint64.
const numSize = 8

// maxField is the size of the largest field that Pad makes: a length byte counts up to 255.
const maxField = 256

// maxInvalid is the most zero bytes that an invalid cursor returns, so that a size read from damaged data cannot ask for much memory.
const maxInvalid = 256

// Put returns the size lowest bytes of n, the lowest first.
func Put(n uint64, size int) []byte {
	b := make([]byte, max(size, 0))
	for i := range b {
		b[i] = byte(n)
		n >>= 8
	}
	return b
}

// Get returns the number in the first eight bytes of b, the lowest first.
func Get(b []byte) uint64 {
	n := uint64(0)
	for i := range min(len(b), numSize) {
		n |= uint64(b[i]) << (8 * i)
	}
	return n
}

// Pad returns s in a field of size bytes: its length in one byte, its bytes, and zero bytes.
func Pad(s string, size int) ([]byte, api.Code) {
	if size < 1 || size > maxField {
		return nil, api.ErrRange
	}
	if len(s) > size-1 {
		return nil, api.ErrSize
	}
	b := make([]byte, size)
	b[0] = byte(len(s))
	copy(b[1:], s)
	return b, api.OK
}

// Unpad returns the string in a field that Pad made.
func Unpad(b []byte) (string, api.Code) {
	if len(b) == 0 {
		return "", api.ErrForm
	}
	size, rest := int(b[0]), b[1:]
	// A string has one encoding only, so nothing may hide behind it.
	if size > len(rest) || !Zero(rest[size:]) {
		return "", api.ErrForm
	}
	return string(rest[:size]), api.OK
}

// Zero reports whether all bytes of b are 0.
func Zero(b []byte) bool {
	for _, x := range b {
		if x != 0 {
			return false
		}
	}
	return true
}

// Whole returns the sector that begins with b, cut off or filled with zero bytes.
func Whole(b []byte) api.Sector {
	var s api.Sector
	copy(s[:], b)
	return s
}

// Cursor decodes bytes from front to back. It stays invalid after the first failure, so that a decoder may check once, at its end.
type Cursor struct {
	left    []byte
	invalid bool
}

// From returns a cursor at the beginning of b.
func From(b []byte) *Cursor {
	// The caller may write to b later, and the cursor must not see it.
	return &Cursor{left: bytes.Clone(b)}
}

// Bytes returns the next n bytes, or zero bytes if they are not there.
func (c *Cursor) Bytes(n int) []byte {
	if n < 0 || n > len(c.left) {
		c.invalid = true
	}
	if c.invalid {
		return make([]byte, min(max(n, 0), maxInvalid))
	}
	// A copy: the caller owns what it gets, and could otherwise append into the bytes that follow.
	b := bytes.Clone(c.left[:n])
	c.left = c.left[n:]
	return b
}

// Num returns the next number of size bytes.
func (c *Cursor) Num(size int) uint64 {
	return Get(c.Bytes(size))
}

// Text returns the next string in a field of size bytes.
func (c *Cursor) Text(size int) string {
	s, code := Unpad(c.Bytes(size))
	if code != api.OK {
		c.invalid = true
	}
	return s
}

// Right reports whether all that was asked for was there.
func (c *Cursor) Right() bool {
	return !c.invalid
}

// Rest reports whether the cursor is valid and only zero bytes are left.
func (c *Cursor) Rest() bool {
	return !c.invalid && Zero(c.left)
}
