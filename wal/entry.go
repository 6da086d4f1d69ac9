package wal

import (
	"bytes"

	"bastille/api"
	"bastille/word"
)

// reflected is the polynomial of the checksum, the least significant bits first.
const reflected = 0xedb88320

// The kinds of entries. An entry that is none has no kind.
const (
	kindFirst  = 1 + iota // the first half of a home
	kindSecond            // the second half
	kindEnd               // how many writes the transaction has
)

const (
	numberAt   = 1  // where the number of an entry begins
	dataAt     = 5  // its data
	sumAt      = 52 // its checksum
	stampAt    = 56 // its stamp
	sizeAt     = 8  // the size of a slot
	sizeEnd    = 12 // and where it ends
	baseAgain  = 56 // the second base of a slot
	halfSector = api.Sector / 2
)

// A slot says where a log begins.
type slot struct{ base, size int }

// An entry is a part of a transaction.
type entry struct {
	kind, number int
	data         [halfSector]byte
}

// Sum is the checksum of some bytes.
func Sum(parts ...[]byte) uint32 {
	s := ^uint32(0)
	for _, b := range parts {
		for _, c := range b {
			s = shift(s ^ uint32(c))
		}
	}
	return ^s
}

// shift takes the eight lowest bits out of a checksum.
func shift(s uint32) uint32 {
	for range 8 {
		s = s>>1 ^ reflected*(s&1)
	}
	return s
}

// bytes is the sector of a slot.
func (s slot) bytes() []byte {
	b := make([]byte, api.Sector)
	put(b[:sizeAt], s.base)
	put(b[sizeAt:sizeEnd], s.size)
	put(b[baseAgain:], s.base)
	return b
}

// readSlot is the slot of a sector, if it is valid on a disk that is great enough; otherwise its base is 0.
func readSlot(b []byte) slot {
	s := slot{get(b[:sizeAt]), get(b[sizeAt:sizeEnd])}
	if s.base > greatest || !bytes.Equal(b, s.bytes()) {
		return slot{}
	}
	return s
}

// bytes is the sector of an entry, at the place of a stamp.
func (x entry) bytes(stamp int) []byte {
	b := make([]byte, api.Sector)
	b[0] = byte(x.kind)
	put(b[numberAt:dataAt], x.number)
	copy(b[dataAt:], x.data[:])
	put(b[stampAt:], stamp)
	put(b[sumAt:stampAt], int(Sum(b[:sumAt], b[stampAt:])))
	return b
}

// readEntry is the entry of a sector, if it is valid at the place of a stamp; otherwise it has no kind.
func readEntry(b []byte, stamp int) entry {
	x := entry{kind: int(b[0]), number: get(b[numberAt:dataAt])}
	copy(x.data[:], b[dataAt:])
	if !bytes.Equal(b, x.bytes(stamp)) {
		return entry{}
	}
	return x
}

// entriesOf is the entries of a transaction.
func entriesOf(w []api.Write) []entry {
	l := make([]entry, 0, places(len(w)))
	for _, x := range w {
		l = append(l, half(kindFirst, x.Home, x.Data[:halfSector]), half(kindSecond, x.Home, x.Data[halfSector:]))
	}
	return append(l, end(len(w)))
}

// half is the entry of half a home.
func half(kind, home int, b []byte) entry {
	return entry{kind, home, [halfSector]byte(b)}
}

// end is the last entry of a transaction of so many writes.
func end(writes int) entry { return entry{kind: kindEnd, number: writes} }

// writeOf is the write of two entries, if they are the halves of one home.
func writeOf(first, second entry) (api.Write, bool) {
	if first.kind != kindFirst || second.kind != kindSecond || first.number != second.number {
		return api.Write{}, false
	}
	return api.Write{Home: first.number, Data: append(first.data[:], second.data[:]...)}, true
}

// put fills bytes with a number, which fits.
func put(b []byte, n int) {
	x, _ := word.Put(n, len(b))
	copy(b, x)
}

// get is the number of bytes; 0 if it is above all that a log has.
func get(b []byte) int {
	n, _ := word.Get(b)
	return n
}
