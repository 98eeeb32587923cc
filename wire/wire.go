// Package wire is layer 1: canonical encoding of records. See shared/doc/01-wire.md.
package wire

import (
	"math/bits"
	"slices"

	"kinkeep/api"
)

const (
	groupBits = 7
	more      = 1 << groupBits // added to every byte of a number but the last
	mostBytes = 10             // bytes of the longest number
)

// Writer builds the encoding of a record.
type Writer struct {
	data []byte
	err  api.Errno
}

// NewWriter returns an empty writer.
func NewWriter() *Writer { return &Writer{} }

// Uint appends a number in base 128, the least significant group first.
func (w *Writer) Uint(n uint64) {
	if w.err == api.OK {
		w.data = extend(w.data, n)
	}
}

// Int appends a signed number by its zigzag number.
func (w *Writer) Int(n int) { w.Uint(Zigzag(n)) }

// Bool appends one byte: 0 or 1.
func (w *Writer) Bool(b bool) {
	if b {
		w.Uint(1)
	} else {
		w.Uint(0)
	}
}

// Bytes appends the length and the bytes.
func (w *Writer) Bytes(b []byte) { writeAll(w, b) }

// Text appends a string like bytes.
func (w *Writer) Text(s string) { writeAll(w, s) }

// Sum appends exactly SumSize bytes; a string of another length is an error.
func (w *Writer) Sum(s string) {
	switch {
	case w.err != api.OK:
	case len(s) != api.SumSize:
		w.err = api.ErrArgument
	default:
		w.data = append(w.data, s...)
	}
}

// Count appends the number of items of a list, which follow; a negative one is an error.
func (w *Writer) Count(n int) {
	switch {
	case w.err != api.OK:
	case n < 0:
		w.err = api.ErrArgument
	default:
		w.Uint(uint64(n))
	}
}

// Done returns the encoding, or the error of the first call that had one.
func (w *Writer) Done() ([]byte, api.Errno) {
	if w.err != api.OK {
		return nil, w.err
	}
	if len(w.data) > api.MaxIndex {
		return nil, api.ErrTooLarge
	}
	return slices.Clone(w.data), api.OK
}

// Reader reads an encoding. After the first error all reads return zero values.
type Reader struct {
	data []byte
	at   int // the offset
	last int // the offset of the value that was read last
	err  api.Errno
}

// NewReader returns a reader of b.
func NewReader(b []byte) *Reader { return &Reader{data: slices.Clone(b)} }

// Uint reads a number in its shortest form.
func (r *Reader) Uint() uint64 { return read(r, r.number) }

// Int reads a signed number.
func (r *Reader) Int() int { return Unzigzag(r.Uint()) }

// Bool reads a bool.
func (r *Reader) Bool() bool { return read(r, r.truth) }

// Bytes reads bytes of at most this length.
func (r *Reader) Bytes(most int) []byte {
	return read(r, func() ([]byte, api.Errno) {
		b, err := r.measured(most)
		return slices.Clone(b), err
	})
}

// Text reads a string of at most this length.
func (r *Reader) Text(most int) string {
	return read(r, func() (string, api.Errno) {
		b, err := r.measured(most)
		return string(b), err
	})
}

// Sum reads SumSize bytes.
func (r *Reader) Sum() string {
	return read(r, func() (string, api.Errno) {
		b, err := r.next(api.SumSize)
		return string(b), err
	})
}

// Count reads the number of items of a list, at most this one.
func (r *Reader) Count(most int) int {
	return read(r, func() (int, api.Errno) { return r.limited(most) })
}

// Fail marks the value that was read last as invalid.
func (r *Reader) Fail() {
	if r.err == api.OK {
		r.at, r.err = r.last, api.ErrSyntax
	}
}

// Left returns the number of bytes that are left.
func (r *Reader) Left() int { return len(r.data) - r.at }

// End returns OK if all bytes were read without an error; otherwise the byte offset of the first error, and the error.
func (r *Reader) End() (int, api.Errno) {
	if r.err == api.OK && r.Left() > 0 {
		return r.at, api.ErrSyntax
	}
	return r.at, r.err
}

// AppendUint appends a number to bytes.
func AppendUint(b []byte, n uint64) []byte {
	// Room of its own, so that nothing is written behind the end of b.
	return extend(append(make([]byte, 0, len(b)+UintSize(n)), b...), n)
}

// UintSize returns the number of bytes of a number.
func UintSize(n uint64) int {
	return max(1, (bits.Len64(n)+groupBits-1)/groupBits)
}

// Zigzag maps signed numbers to unsigned ones: 0, -1, 1, -2, .. to 0, 1, 2, 3, ..
func Zigzag(n int) uint64 {
	// The complement of n is -n - 1, which has no overflow for the least int.
	if n < 0 {
		return uint64(^n)<<1 | 1
	}
	return uint64(n) << 1
}

// Unzigzag is the inverse of Zigzag.
func Unzigzag(n uint64) int {
	half := int(n >> 1)
	if n&1 == 1 {
		return ^half
	}
	return half
}

// extend appends the encoding of n to b, in the memory of b if there is room.
func extend(b []byte, n uint64) []byte {
	for n >= more {
		b = append(b, byte(n)|more)
		n >>= groupBits
	}
	return append(b, byte(n))
}

// writeAll appends the length and the bytes of a slice or a string.
func writeAll[T []byte | string](w *Writer, all T) {
	w.Uint(uint64(len(all)))
	if w.err == api.OK {
		w.data = append(w.data, all...)
	}
}

// read decodes the value at the offset by a function that moves the offset, however far it comes: a failed read leaves it at the first byte of the value.
func read[T any](r *Reader, decode func() (T, api.Errno)) (value T) {
	if r.err != api.OK {
		return value
	}
	r.last = r.at
	defer func() {
		if r.err != api.OK {
			r.at = r.last
		}
	}()
	value, r.err = decode()
	return value
}

// number decodes a number.
func (r *Reader) number() (uint64, api.Errno) {
	n := uint64(0)
	for i := range mostBytes {
		group, err := r.next(1)
		if err != api.OK {
			return 0, err
		}
		low := uint64(group[0] &^ more)
		shift := i * groupBits
		if low<<shift>>shift != low {
			return 0, api.ErrSyntax
		}
		n |= low << shift
		if group[0] < more {
			if low == 0 && i > 0 {
				return 0, api.ErrSyntax
			}
			return n, api.OK
		}
	}
	return 0, api.ErrSyntax
}

// truth decodes a bool.
func (r *Reader) truth() (bool, api.Errno) {
	b, err := r.next(1)
	if err != api.OK || b[0] > 1 {
		return false, api.ErrSyntax
	}
	return b[0] == 1, api.OK
}

// limited decodes a number of at most this size.
func (r *Reader) limited(most int) (int, api.Errno) {
	n, err := r.number()
	if err != api.OK {
		return 0, err
	}
	if n > uint64(max(most, 0)) {
		return 0, api.ErrTooLarge
	}
	return int(n), api.OK
}

// measured decodes a length of at most this size and the bytes, which are those of the reader.
func (r *Reader) measured(most int) ([]byte, api.Errno) {
	size, err := r.limited(most)
	if err != api.OK {
		return nil, err
	}
	return r.next(size)
}

// next moves the offset by size bytes, and returns them; they are those of the reader.
func (r *Reader) next(size int) ([]byte, api.Errno) {
	if size > r.Left() {
		return nil, api.ErrSyntax
	}
	from := r.at
	r.at += size
	return r.data[from:r.at], api.OK
}
