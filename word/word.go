// Package word is layer 1: see shared/doc/01-word.md.
package word

import (
	"bastille/api"
)

// most is the greatest number of eight bytes: it is kept away from the sign bit, so that every number is an int.
const most = 1 << 62

// An order says which byte of a number stands first.
type order int

const (
	highFirst order = iota
	lowFirst
)

// Low is a number's bytes, the lowest first.
func Low(n, size int) ([]byte, api.Errno) { return put(n, size, lowFirst) }

// Put is a number's bytes, the highest first.
func Put(n, size int) ([]byte, api.Errno) { return put(n, size, highFirst) }

// Get is the number of bytes, the highest first.
func Get(b []byte) (int, api.Errno) { return get(b, highFirst) }

// GetLow is the number of bytes, the lowest first.
func GetLow(b []byte) (int, api.Errno) { return get(b, lowFirst) }

// Words32 is numbers of four bytes, the lowest first.
func Words32(b []byte) ([]uint32, api.Errno) { return words[uint32](b, 4, lowFirst) }

// Bytes32 is the bytes of such numbers.
func Bytes32(l []uint32) []byte { return split(l, 4, lowFirst) }

// Words64 is numbers of eight bytes, the highest first.
func Words64(b []byte) ([]uint64, api.Errno) { return words[uint64](b, 8, highFirst) }

// Bytes64 is the bytes of such numbers.
func Bytes64(l []uint64) []byte { return split(l, 8, highFirst) }

func put(n, size int, o order) ([]byte, api.Errno) {
	if size < 1 || size > 8 || n < 0 || n > greatest(size) {
		return nil, api.ErrArg
	}
	return split([]uint64{uint64(n)}, size, o), api.OK
}

func get(b []byte, o order) (int, api.Errno) {
	if len(b) == 0 {
		return 0, api.ErrEnd
	}
	if len(b) > 8 {
		return 0, api.ErrArg
	}
	n := join[uint64](b, len(b), o)[0]
	if n > most {
		return 0, api.ErrForm
	}
	return int(n), api.OK
}

func words[T uint32 | uint64](b []byte, size int, o order) ([]T, api.Errno) {
	if len(b)%size != 0 {
		return nil, api.ErrArg
	}
	return join[T](b, size, o), api.OK
}

// greatest is the greatest number of size bytes, for a size from 1 to 8.
func greatest(size int) int {
	if size == 8 {
		return most
	}
	return 1<<(8*size) - 1
}

// split is the bytes of numbers, size bytes each.
func split[T uint32 | uint64](l []T, size int, o order) []byte {
	b := make([]byte, len(l)*size)
	for i := range b {
		b[i] = byte(l[i/size] >> shift(i%size, size, o))
	}
	return b
}

// join is the numbers of bytes, size bytes each, whose number is a multiple of size.
func join[T uint32 | uint64](b []byte, size int, o order) []T {
	l := make([]T, len(b)/size)
	for i, c := range b {
		l[i/size] |= T(c) << shift(i%size, size, o)
	}
	return l
}

// shift is by how many bits the byte at a place in a number of size bytes is shifted: the one thing in which the orders differ.
func shift(place, size int, o order) int {
	if o == highFirst {
		place = size - 1 - place
	}
	return 8 * place
}
